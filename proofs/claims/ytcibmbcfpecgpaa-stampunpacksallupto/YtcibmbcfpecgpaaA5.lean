import Derived.Test.YtcibmbcfpecgpaaUnpAll
import Derived.Test.YtcibmbcfpecgpaaRefEv2
import Derived.Maps.AppendAt
namespace Go.Proofs.Ytcibmbcfpecgpaa
open Go.ChangeShapes Go.WideShapes Go.ChangeAt Go.RowKit
set_option linter.unusedVariables false

theorem own_below {w w' : World} {base E sz n : Nat} {v : Value} {xs : List Value} (h : w.ownsRow base E sz v n xs) (hb : Below w.heap.size w w') : w'.ownsRow base E sz v n xs := own_far h fun k hk => hb.block k (h.lt k hk).2
theorem own_base' {w : World} {base E sz n : Nat} {v : Value} {xs : List Value} (h : w.ownsRow base E sz v n xs) {g : Nat} (hg : v.ownBlock = some g) : base ≤ g := (h.lt g hg).1
set_option maxHeartbeats 4000000 in
theorem readAll_any (sl : Option Addr) (L cap : Nat) (B : Nat → Int) (w : World) (hL : L ≤ 1000000000000) (hBy : BytesAt w sl L B) :
    Calls Try.prog 26 #[.slice sl L cap, .int .i64 0] w fun r w' => ∃ vl n e, r = .returned (.tuple #[vl, .int .i64 n, .int .i64 e]) ∧ AllRes w.heap.size (unAll B L) vl n e w' ∧ Below w.heap.size w w' := by
  have hn := rdNum_ok (a := 0) hBy.2 (Nat.zero_le L)
  have HNUM := refNum_any sl L cap 0 B w (by omega) (Nat.zero_le _) hBy
  have HBY : Hid (BytesAt w sl L B) := hBy
  obtain ⟨i6, hi6, hs6, hz6, hy6⟩ := info_parts Try.infoEv
  by_cases he0 : (rdNum B L 0).2.2 = 0
  · have HU0 : Hid (unAll B L = unLoop B L (rdNum B L 0).1.toNat (rdNum B L 0).2.1 []) := by
      show unAll B L = _
      unfold unAll
      rw [if_pos he0]
    have hans : ans (rdNum B L 0) = rdNum B L 0 := by
      unfold ans
      rw [if_pos he0]
    rw [hans, he0] at HNUM
    obtain ⟨N, hN⟩ : ∃ N : Nat, (rdNum B L 0).1 = (N : Int) := ⟨(rdNum B L 0).1.toNat, by omega⟩
    obtain ⟨a0, ea0⟩ : ∃ a0, (rdNum B L 0).2.1 = a0 := ⟨_, rfl⟩
    have ha0 : a0 ≤ L := by rw [← ea0]; exact hn.2.1
    have hNb : N < 18446744073709551616 := by omega
    rw [hN, ea0] at HNUM
    rw [hN, ea0, Int.toNat_natCast] at HU0
    have HN : Hid (Calls Try.prog 29 #[.slice sl L cap, .int .i64 0] w fun r w' => r = .returned (.tuple #[.int .u64 N, .int .i64 a0, .int .i64 0]) ∧ w' = w) := HNUM
    clear HNUM hans hn hN ea0 he0 hBy
    go_enter Try.func26, Try.ntmps26
    go_wp2_with (first | (go_at_call 29; (with_reducible refine (HN.out).mono ?_); rintro e w1 ⟨rfl, rfl⟩))
    go_loopw [7, 8, 10] (fun v7 v8 v10 wr => ∃ (m a cnt : Nat) (acc : List Value), v7 = .int .u64 m ∧ v8 = .int .i64 a ∧ m ≤ N ∧ wr.ownsRow w1.heap.size 26 6 v10 cnt acc ∧ Below w1.heap.size w1 wr ∧ cnt ≤ a ∧ a ≤ L ∧ unAll B L = unLoop B L m a acc) (fun v _ _ _ => (intOf v).toNat)
    case atStart => exact ⟨N, a0, 0, [], rfl, rfl, Nat.le_refl _, World.ownsRow_nil _ _ _ _, Below.refl _ _, Nat.zero_le _, ha0, HU0.out⟩
    case round =>
      obtain ⟨m, a, cnt, acc, rfl, rfl, hm, ho, hbw, hca, haL, hu⟩ := hrel
      by_cases hlt : 0 < m
      · obtain ⟨m, rfl⟩ : ∃ m', m = m' + 1 := ⟨m - 1, by omega⟩
        have HU : Hid (unAll B L = unLoop B L (m + 1) a acc) := hu
        have hok := evR5_ok HBY.out.2 haL
        have hadv := evR5_adv B L a
        have HEV := fun W (hW : BytesAt W sl L B) => readEv_any sl L cap a B W (by omega) haL hW
        obtain ⟨e', ee⟩ : ∃ e', (evR5 B L a 0).2.2 = e' := ⟨_, rfl⟩
        obtain ⟨a', ea⟩ : ∃ a', (evR5 B L a 0).2.1 = a' := ⟨_, rfl⟩
        rw [ee, ea] at HEV
        rw [ea, ee] at hok hadv
        have d0 : decide (((m : Int) + 1) > 0) = true := decide_eq_true (by omega)
        have d0' : decide (0 < ((m : Int) + 1)) = true := decide_eq_true (by omega)
        have d0n : decide (0 < m + 1) = true := decide_eq_true (by omega)
        by_cases he' : e' = 0
        · subst he'
          have hadv := hadv rfl
          obtain ⟨v0, v1, v2, v3, v4, v5, hv⟩ : ∃ v0 v1 v2 v3 v4 v5 : Int, evVals B L a 0 = #[.int .u64 v0, .int .i64 v1, .int .u64 v2, .int .i64 v3, .int .i64 v4, .int .i64 v5] := ⟨_, _, _, _, _, _, rfl⟩
          rw [if_pos rfl, if_pos rfl, hv] at HEV
          have HS : Hid (unAll B L = unLoop B L m a' (acc ++ [.int .u64 v0, .int .i64 v1, .int .u64 v2, .int .i64 v3, .int .i64 v4, .int .i64 v5])) := by
            show unAll B L = _
            rw [HU.out, unLoop, ee, if_pos rfl, ea, hv]
          have HC : ∀ W, Hid (Below w1.heap.size w1 W) → Hid (Calls Try.prog 30 #[.slice sl L cap, .int .i64 a] W fun r w' => r = .returned (.tuple #[.agg #[.int .u64 v0, .int .i64 v1, .int .u64 v2, .int .i64 v3, .int .i64 v4, .int .i64 v5], .int .i64 a', .int .i64 0]) ∧ Hid (Below W.heap.size W w')) := fun W h => HEV W (HBY.out.below h.out)
          have HB : Hid (Below w1.heap.size w1 wr) := hbw
          have HO : Hid (wr.ownsRow w1.heap.size 26 6 u10 cnt acc) := ho
          clear HEV hv ee ea HU hu ho hbw
          have p1 : cnt + 1 ≤ maxLen := by unfold maxLen; omega
          have p2 : (cnt + 1) * 48 ≤ 140737488355328 := by omega
          go_wp2_with (first | (go_at_call 30; (with_reducible refine ((HC _ HB).out).mono ?_); rintro e w2 ⟨rfl, hb2⟩; have hb3 : Hid (Below w1.heap.size w1 ((w2.alloc (.cells #[.int .u64 v0, .int .i64 v1, .int .u64 v2, .int .i64 v3, .int .i64 v4, .int .i64 v5] 26)).alloc (.cells #[.int .u64 v0, .int .i64 v1, .int .u64 v2, .int .i64 v3, .int .i64 v4, .int .i64 v5] 26))) := ((HB.out.trans (hb2.out.mono HB.out.size)).alloc (Nat.le_trans HB.out.size hb2.out.size) _).alloc (Nat.le_trans (Nat.le_trans HB.out.size hb2.out.size) (by simp)) _; have ho2 : Hid (((w2.alloc (.cells #[.int .u64 v0, .int .i64 v1, .int .u64 v2, .int .i64 v3, .int .i64 v4, .int .i64 v5] 26)).alloc (.cells #[.int .u64 v0, .int .i64 v1, .int .u64 v2, .int .i64 v3, .int .i64 v4, .int .i64 v5] 26)).ownsRow w1.heap.size 26 6 u10 cnt acc) := ((own_below HO.out hb2.out).alloc _).alloc _; have hn2 : Hid (∀ j u, [.int .u64 v0, .int .i64 v1, .int .u64 v2, .int .i64 v3, .int .i64 v4, .int .i64 v5][j]? = some u → ((w2.alloc (.cells #[.int .u64 v0, .int .i64 v1, .int .u64 v2, .int .i64 v3, .int .i64 v4, .int .i64 v5] 26)).alloc (.cells #[.int .u64 v0, .int .i64 v1, .int .u64 v2, .int .i64 v3, .int .i64 v4, .int .i64 v5] 26)).cell? ((⟨w2.heap.size + 1, 0, none⟩ : Addr).add j) = some u) := news_six _ _ _ _ _ _ _ _ _ (by simp)) | (at_builtin; refine wpList_append_own_at _ rfl _ _ 27 rfl w1.heap.size 26 i6 _ 6 48 Try.underlying27 hi6 hs6 hz6 hy6 rfl (by decide) _ _ _ rfl ho2.out ⟨w2.heap.size + 1, 0, none⟩ 1 1 [.int .u64 v0, .int .i64 v1, .int .u64 v2, .int .i64 v3, .int .i64 v4, .int .i64 v5] rfl rfl hn2.out (by simp [Value.oneCell']) p1 p2 hb3.out.size ?_; intro v' w5 hown5 hgrow5 _ _))
          have hb5 : Below w1.heap.size w1 w5 := hb3.out.grown hgrow5 hb3.out.size (fun r e => own_base' ho2.out e)
          exact ⟨⟨m, a', cnt + 1, _, by go_num, rfl, by omega, hown5, hb5, by omega, hok.1, HS.out⟩, by simp [intOf]⟩
        · rw [if_neg he', if_neg he'] at HEV
          have HS : Hid (unAll B L = (acc, a', e')) := by
            show unAll B L = _
            rw [HU.out, unLoop, ee, if_neg he', ea]
          have HC : ∀ W, Hid (Below w1.heap.size w1 W) → Hid (Calls Try.prog 30 #[.slice sl L cap, .int .i64 a] W fun r w' => r = .returned (.tuple #[.agg #[.int .u64 0, .int .i64 0, .int .u64 0, .int .i64 0, .int .i64 0, .int .i64 0], .int .i64 0, .int .i64 e']) ∧ Hid (Below W.heap.size W w')) := fun W h => HEV W (HBY.out.below h.out)
          have HB : Hid (Below w1.heap.size w1 wr) := hbw
          have dne : (e' != 0) = true := by simpa using he'
          have deq : (e' == 0) = false := by simpa using he'
          have HE' : Hid (e' ≠ 0) := he'
          clear HEV ee ea HU hu ho hbw he'
          go_wp2_with (first | (go_at_call 30; (with_reducible refine ((HC _ HB).out).mono ?_); rintro e w2 ⟨rfl, hb2⟩))
          have hres : ∀ W, AllRes w1.heap.size (unAll B L) (.slice none 0 0) 0 e' W := fun W => by
            unfold AllRes
            rw [HS.out, if_neg HE'.out]
            exact ⟨rfl, rfl, rfl⟩
          refine bodyPost_ret (v := .tuple #[.slice none 0 0, .int .i64 0, .int .i64 e']) (by simp [results, Try.results26, go_sem]) rfl ⟨_, _, _, rfl, hres _, ?_⟩
          exact (HB.out.trans (hb2.out.mono HB.out.size)).alloc (Nat.le_trans HB.out.size hb2.out.size) _
      · obtain rfl : m = 0 := by omega
        have HS : Hid (unAll B L = (acc, a, 0)) := by
          show unAll B L = _
          rw [hu, unLoop]
        have HO : Hid (wr.ownsRow w1.heap.size 26 6 u10 cnt acc) := ho
        clear hu ho
        go_wp2
        have hres : AllRes w1.heap.size (unAll B L) u10 a 0 wr := by
          unfold AllRes
          rw [HS.out, if_pos rfl]
          exact ⟨⟨cnt, HO.out⟩, rfl, rfl⟩
        refine bodyPost_ret (v := .tuple #[u10, .int .i64 a, .int .i64 0]) (by simp [results, Try.results26, go_sem]) rfl ⟨_, _, _, rfl, hres, hbw⟩
  · have hans : ans (rdNum B L 0) = (0, 0, (rdNum B L 0).2.2) := by
      unfold ans
      rw [if_neg he0]
    rw [hans] at HNUM
    have HS : Hid (unAll B L = ([], (rdNum B L 0).2.1, (rdNum B L 0).2.2)) := by
      show unAll B L = _
      unfold unAll
      rw [if_neg he0]
    obtain ⟨e0, ee0⟩ : ∃ e0, (rdNum B L 0).2.2 = e0 := ⟨_, rfl⟩
    rw [ee0] at HNUM HS he0
    have HN : Hid (Calls Try.prog 29 #[.slice sl L cap, .int .i64 0] w fun r w' => r = .returned (.tuple #[.int .u64 0, .int .i64 0, .int .i64 e0]) ∧ w' = w) := HNUM
    have dne : (e0 != 0) = true := by simpa using he0
    have deq : (e0 == 0) = false := by simpa using he0
    have HE' : Hid (e0 ≠ 0) := he0
    clear HNUM hans hn ee0 he0 hBy
    go_enter Try.func26, Try.ntmps26
    go_wp2_with (first | (go_at_call 29; (with_reducible refine (HN.out).mono ?_); rintro e w1 ⟨rfl, rfl⟩))
    have hres : ∀ W, AllRes w1.heap.size (unAll B L) (.slice none 0 0) 0 e0 W := fun W => by
      unfold AllRes
      rw [HS.out, if_neg HE'.out]
      exact ⟨rfl, rfl, rfl⟩
    refine bodyPost_ret (v := .tuple #[.slice none 0 0, .int .i64 0, .int .i64 e0]) (by simp [results, Try.results26, go_sem]) rfl ⟨_, _, _, rfl, hres _, Below.refl _ _⟩

theorem refUnpackAll_any (sl : Option Addr) (L cap : Nat) (B : Nat → Int) (w : World) (hL : L ≤ 1000000000000) (hBy : BytesAt w sl L B) :
    Calls Try.prog 15 #[.slice sl L cap] w fun r w' => ∃ vl n e, r = .returned (.tuple #[vl, .int .i64 n, .int .i64 e]) ∧ AllRes w.heap.size (unAll B L) vl n e w' ∧ Below w.heap.size w w' := by
  have HC : Hid (Calls Try.prog 26 #[.slice sl L cap, .int .i64 0] w fun r w' => ∃ vl n e, r = .returned (.tuple #[vl, .int .i64 n, .int .i64 e]) ∧ Hid (AllRes w.heap.size (unAll B L) vl n e w') ∧ Hid (Below w.heap.size w w')) := readAll_any sl L cap B w hL hBy
  clear hBy
  go_enter Try.func15, Try.ntmps15
  go_wp2_with (first | (go_at_call 26; (with_reducible refine (HC.out).mono ?_); rintro r w1 ⟨vl, n, e, rfl, h1, h2⟩))
  refine bodyPost_ret (v := .tuple #[vl, .int .i64 n, .int .i64 e]) (by simp [results, Try.results15, go_sem]) rfl ⟨_, _, _, rfl, h1.out, h2.out⟩
end Go.Proofs.Ytcibmbcfpecgpaa
