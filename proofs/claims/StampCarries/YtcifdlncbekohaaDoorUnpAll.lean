import Derived.Test.YtcifdlncbekohaaDoorUnp
import Derived.Deep.AppendLies
namespace Go.Proofs.YtcifdlncbekohaaDoor
open Go.ChangeShapes Go.WideShapes Go.ChangeAt Go.RowKit

theorem rdGo_adv (B : Nat → Int) (L : Nat) : ∀ (f k a : Nat) (n : Int), a ≤ (rdGo B L f k a n).2.1 ∧ ((rdGo B L f k a n).2.2 = 0 → a + 1 ≤ (rdGo B L f k a n).2.1)
  | 0, k, a, n => by simp [rdGo]
  | f + 1, k, a, n => by
    by_cases c1 : L ≤ a
    · rw [rd_short c1]; simp
    · by_cases c2 : (k = 9 ∧ 1 < B a) ∨ (0 < k ∧ B a = 0)
      · rw [rd_form c1 c2]; simp
      · by_cases c3 : B a < 128
        · rw [rd_last c1 c2 c3]; simp
        · rw [rd_more c1 c2 c3]
          have := rdGo_adv B L f (k + 1) (a + 1) (n + p7 k * (B a % 128))
          omega
theorem rdSt_adv (B : Nat → Int) (L a : Nat) (e : Int) : a ≤ (rdSt B L a e).2.1 ∧ ((rdSt B L a e).2.2 = 0 → e = 0 ∧ a + 1 ≤ (rdSt B L a e).2.1) := by
  unfold rdSt
  split
  · rename_i h
    have := rdGo_adv B L 10 0 a 0
    exact ⟨this.1, fun h2 => ⟨h, this.2 h2⟩⟩
  · rename_i h
    exact ⟨Nat.le_refl _, fun h2 => absurd h2 h⟩
theorem evR5_adv (B : Nat → Int) (L a : Nat) (h : (evR5 B L a 0).2.2 = 0) : a + 1 ≤ (evR5 B L a 0).2.1 := by
  have h0 := rdSt_adv B L a 0
  have h1 := rdSt_adv B L (evR0 B L a 0).2.1 (evR0 B L a 0).2.2
  have h2 := rdSt_adv B L (evR1 B L a 0).2.1 (evR1 B L a 0).2.2
  have h3 := rdSt_adv B L (evR2 B L a 0).2.1 (evR2 B L a 0).2.2
  have h4 := rdSt_adv B L (evR3 B L a 0).2.1 (evR3 B L a 0).2.2
  have h5 := rdSt_adv B L (evR4 B L a 0).2.1 (evR4 B L a 0).2.2
  rw [← evR0] at h0
  rw [← evR1] at h1
  rw [← evR2] at h2
  rw [← evR3] at h3
  rw [← evR4] at h4
  rw [← evR5] at h5
  have := (h5.2 h).1
  omega
theorem evR5_ok {B : Nat → Int} {L a : Nat} (bB : ∀ i, i < L → 0 ≤ B i ∧ B i ≤ 255) (ha : a ≤ L) : (evR5 B L a 0).2.1 ≤ L ∧ ((evR5 B L a 0).2.2 = 0 ∨ (evR5 B L a 0).2.2 = 11 ∨ (evR5 B L a 0).2.2 = 12) := by
  have k0 := rdSt_ok (B := B) (L := L) (a := a) (e := 0) bB ha (Or.inl rfl)
  have k1 := rdSt_ok (B := B) (L := L) bB k0.2.1 k0.2.2.1
  have k2 := rdSt_ok (B := B) (L := L) bB k1.2.1 k1.2.2.1
  have k3 := rdSt_ok (B := B) (L := L) bB k2.2.1 k2.2.2.1
  have k4 := rdSt_ok (B := B) (L := L) bB k3.2.1 k3.2.2.1
  have k5 := rdSt_ok (B := B) (L := L) bB k4.2.1 k4.2.2.1
  exact ⟨k5.2.1, k5.2.2.1⟩

/-- the list that stands there: its cells, the place behind it, the error -/
def unLoop (B : Nat → Int) (L : Nat) : Nat → Nat → List Value → List Value × Nat × Int
  | 0, a, acc => (acc, a, 0)
  | m + 1, a, acc => if (evR5 B L a 0).2.2 = 0 then unLoop B L m (evR5 B L a 0).2.1 (acc ++ (evVals B L a 0).toList) else (acc, (evR5 B L a 0).2.1, (evR5 B L a 0).2.2)
def unAll (B : Nat → Int) (L : Nat) : List Value × Nat × Int := if (rdNum B L 0).2.2 = 0 then unLoop B L (rdNum B L 0).1.toNat (rdNum B L 0).2.1 [] else ([], (rdNum B L 0).2.1, (rdNum B L 0).2.2)

def AllRes (base : Nat) (u : List Value × Nat × Int) (vl : Value) (n e : Int) (w' : World) : Prop :=
  if u.2.2 = 0 then (∃ cnt, w'.ownsRow base 36 6 vl cnt u.1) ∧ n = u.2.1 ∧ e = 0 else vl = .slice none 0 0 ∧ n = 0 ∧ e = u.2.2

theorem Tryd.infoEv : (Tryd.prog.info? 36).map (fun i => (i.zero, i.size, i.bytes)) = some (some (.agg #[.int .u64 0, .int .i64 0, .int .u64 0, .int .i64 0, .int .i64 0, .int .i64 0]), 6, 48) := by kernel_rfl

theorem rdr_cells {w : World} {rb : Nat} {x y z : Value} {T : TypeId} (h : w.heap[rb]? = some (.cells #[x, y, z] T (0, 0))) : w.cell? ⟨rb, 0, none⟩ = some x ∧ w.cell? ⟨rb, 1, none⟩ = some y ∧ w.cell? ⟨rb, 2, none⟩ = some z := by
  refine ⟨?_, ?_, ?_⟩ <;> simp [World.cell?, h]

theorem own_far {w w' : World} {base E sz n : Nat} {v : Value} {xs : List Value} (h : w.ownsRow base E sz v n xs) (hk : ∀ k, v.ownBlock = some k → w'.heap[k]? = w.heap[k]?) : w'.ownsRow base E sz v n xs := by
  refine ⟨h.1, ?_⟩
  rcases h.2 with h | ⟨g, cap, cur, rfl, hg, hh, r⟩
  · exact Or.inl h
  · exact Or.inr ⟨g, cap, cur, rfl, hg, (hk g rfl).trans hh, r⟩
theorem news_six (W : World) (a b c d e f : Value) (T : TypeId) (A : Nat) (hA : A = W.heap.size) : ∀ j u, [a, b, c, d, e, f][j]? = some u → (W.alloc (.cells #[a, b, c, d, e, f] T)).cell? ((⟨A, 0, none⟩ : Addr).add j) = some u := by
  subst hA
  exact World.news_of_block (cs := #[a, b, c, d, e, f]) (heap_alloc_new W _)

set_option maxHeartbeats 4000000 in
theorem unpackAll_any (b off L cap : Nat) (B : Nat → Int) (w : World) (hL : L ≤ 1000000000000) (hb : b < w.heap.size)
    (hB : ∀ i, i < L → w.cell? ⟨b, off + i, none⟩ = some (.int .u8 (B i))) (bB : ∀ i, i < L → 0 ≤ B i ∧ B i ≤ 255) :
    Calls Tryd.prog 6 #[.slice (some ⟨b, off, none⟩) L cap] w fun r w' => ∃ vl n e, r = .returned (.tuple #[vl, .int .i64 n, .int .i64 e]) ∧ AllRes (w.heap.size + 1) (unAll B L) vl n e w' ∧ Below w.heap.size w w' := by
  have blk0 : (w.alloc (.cells #[.slice (some ⟨b, off, none⟩) L cap, .int .i64 0, .int .i64 0] 51)).heap[w.heap.size]? = some (.cells #[.slice (some ⟨b, off, none⟩) L cap, .int .i64 0, .int .i64 0] 51 (0, 0)) := heap_alloc_new w _
  have far0 : ∀ k, k < w.heap.size → (w.alloc (.cells #[.slice (some ⟨b, off, none⟩) L cap, .int .i64 0, .int .i64 0] 51)).heap[k]? = w.heap[k]? := fun k hk => Below.heap_alloc _ _ _ hk
  have hB0 : ∀ i, i < L → (w.alloc (.cells #[.slice (some ⟨b, off, none⟩) L cap, .int .i64 0, .int .i64 0] 51)).cell? ⟨b, off + i, none⟩ = some (.int .u8 (B i)) := fun i hi => (World.cell?_of_block (far0 b hb)).trans (hB i hi)
  have HB : Hid (∀ W, Below w.heap.size w W → ∀ i, i < L → W.cell? ⟨b, off + i, none⟩ = some (.int .u8 (B i))) := fun W hW i hi => (World.cell?_of_block (hW.block b hb)).trans (hB i hi)
  have HBB : Hid (∀ i, i < L → 0 ≤ B i ∧ B i ≤ 255) := bB
  have hn := rdNum_ok (a := 0) bB (Nat.zero_le L)
  have HNUM := number_any w.heap.size b off L cap 0 0 B (w.alloc (.cells #[.slice (some ⟨b, off, none⟩) L cap, .int .i64 0, .int .i64 0] 51)) ⟨blk0, rfl, rfl, rfl, rfl, fun _ _ => rfl⟩ (by omega) (Nat.zero_le _) (by omega) hB0 bB
  rw [show rdSt B L 0 0 = rdNum B L 0 from rfl] at HNUM
  clear hB bB hB0 blk0
  go_enter Tryd.func6, Tryd.ntmps6
  go_wp2_with fail
  refine HNUM.mono ?_
  rintro x w1 ⟨rfl, r1⟩
  clear HNUM
  have b1 : Below w.heap.size w w1 := ⟨r1.os, r1.tape, r1.output, by have := r1.size; simp at this; omega, fun k hk => (r1.far k (by omega)).trans (far0 k hk)⟩
  have z1 : w.heap.size + 1 ≤ w1.heap.size := by have := r1.size; simp at this; omega
  have k1 := r1.blk
  clear r1 far0
  obtain ⟨N, hN⟩ : ∃ N : Nat, (rdNum B L 0).1 = (N : Int) := ⟨(rdNum B L 0).1.toNat, by omega⟩
  obtain ⟨a0, ea0⟩ : ∃ a0, (rdNum B L 0).2.1 = a0 := ⟨_, rfl⟩
  obtain ⟨e0, ee0⟩ : ∃ e0, (rdNum B L 0).2.2 = e0 := ⟨_, rfl⟩
  have hz0 : e0 ≠ 0 → N = 0 := fun h => by have := hn.2.2.2 (by rw [ee0]; exact h); omega
  have HU0 : Hid ((e0 ≠ 0 → unAll B L = ([], a0, e0)) ∧ (e0 = 0 → unAll B L = unLoop B L N a0 [])) := by
    refine ⟨fun h => ?_, fun h => ?_⟩
    · unfold unAll; rw [if_neg (by rw [ee0]; exact h), ea0, ee0]
    · unfold unAll; rw [if_pos (by rw [ee0]; exact h), ea0, hN]; simp
  have ha0 : a0 ≤ L := by rw [← ea0]; exact hn.2.1
  have hNb : N < 18446744073709551616 := by omega
  rw [ea0, ee0] at k1
  rw [hN]
  clear hn hN ea0 ee0
  obtain ⟨i6, hi6, hs6, hz6, hy6⟩ := info_parts Tryd.infoEv
  go_wp2_with fail
  go_loopw [6, 11] (fun vl vm wr => ∃ (m a cnt : Nat) (acc : List Value) (e : Int), vm = .int .u64 m ∧ m ≤ N ∧ wr.heap[w.heap.size]? = some (.cells #[.slice (some ⟨b, off, none⟩) L cap, .int .i64 a, .int .i64 e] 51 (0, 0)) ∧ wr.ownsRow (w.heap.size + 1) 36 6 vl cnt acc ∧ Below w.heap.size w wr ∧ w.heap.size + 1 ≤ wr.heap.size ∧ cnt ≤ a ∧ a ≤ L ∧ (e ≠ 0 → N = 0 ∧ unAll B L = (acc, a, e)) ∧ (e = 0 → unAll B L = unLoop B L (N - m) a acc)) (fun _ vm _ => N - (intOf vm).toNat)
  case atStart => exact ⟨0, a0, 0, [], e0, rfl, Nat.zero_le _, k1, World.ownsRow_nil _ _ _ _, b1, z1, Nat.zero_le _, ha0, fun h => ⟨hz0 h, HU0.out.1 h⟩, fun h => HU0.out.2 h⟩
  case round =>
    obtain ⟨m, a, cnt, acc, e, rfl, hm, hk, ho, hbw, hz, hca, haL, hu1, hu2⟩ := hrel
    by_cases hlt : m < N
    · have he : e = 0 := by
        by_cases h : e = 0
        · exact h
        · have := (hu1 h).1; omega
      subst he
      have hu := hu2 rfl
      rw [show N - m = (N - (m + 1)) + 1 by omega] at hu
      have HU : Hid (unAll B L = unLoop B L ((N - (m + 1)) + 1) a acc) := hu
      clear hu hu1 hu2
      have HEV := event_any w.heap.size b off L cap a 0 B wr ⟨hk, rfl, rfl, rfl, rfl, fun _ _ => rfl⟩ (by omega) haL (by omega) (by have := hbw.size; omega) (HB.out wr hbw) HBB.out (Or.inl rfl)
      have hok := evR5_ok HBB.out haL
      have hadv := evR5_adv B L a
      obtain ⟨v0, v1, v2, v3, v4, v5, hv⟩ : ∃ v0 v1 v2 v3 v4 v5 : Int, evVals B L a 0 = #[.int .u64 v0, .int .i64 v1, .int .u64 v2, .int .i64 v3, .int .i64 v4, .int .i64 v5] := ⟨_, _, _, _, _, _, rfl⟩
      obtain ⟨a', ea⟩ : ∃ a', (evR5 B L a 0).2.1 = a' := ⟨_, rfl⟩
      obtain ⟨e', ee⟩ : ∃ e', (evR5 B L a 0).2.2 = e' := ⟨_, rfl⟩
      rw [hv, ea, ee] at HEV
      rw [ea, ee] at hok hadv
      have HS : Hid (unAll B L = if e' = 0 then unLoop B L (N - (m + 1)) a' (acc ++ [.int .u64 v0, .int .i64 v1, .int .u64 v2, .int .i64 v3, .int .i64 v4, .int .i64 v5]) else (acc, a', e')) := by
        show unAll B L = _
        rw [HU.out, unLoop, ea, ee, hv]
      clear HU ea ee hv hk
      have HEV' := HEV
      have HC : Hid (Calls Tryd.prog 21 #[.pointer (some ⟨w.heap.size, 0, none⟩)] wr fun r w' => r = .returned (.agg #[.int .u64 v0, .int .i64 v1, .int .u64 v2, .int .i64 v3, .int .i64 v4, .int .i64 v5]) ∧ RdB wr w' w.heap.size b off L cap a' e') := HEV'
      clear HEV HEV'
      have i1 : (m : Int) < (N : Int) := by omega
      go_wp2_with fail
      refine HC.out.mono ?_
      rintro x w2 ⟨rfl, r2⟩
      clear HC
      have z2 := r2.size
      have k2 := (Below.heap_alloc w2 (.cells #[.int .u64 v0, .int .i64 v1, .int .u64 v2, .int .i64 v3, .int .i64 v4, .int .i64 v5] 36) w.heap.size (by omega)).trans r2.blk
      have kk2 := r2.blk
      obtain ⟨q0, q1, q2⟩ := rdr_cells k2
      obtain ⟨p0, p1, p2⟩ := rdr_cells kk2
      by_cases he' : e' = 0
      · subst he'
        have hadv := hadv rfl
        have hsz := hbw.size
        have oo : w2.ownsRow (w.heap.size + 1) 36 6 u6 cnt acc := own_far ho (fun k hk => r2.far k (ho.lt k hk).2 (by have := (ho.lt k hk).1; omega))
        have b2 : Below w.heap.size w w2 := hbw.trans ⟨r2.os, r2.tape, r2.output, r2.size, fun k hk => r2.far k (by omega) (by omega)⟩
        have hcl : (cnt + 1) * 48 ≤ 140737488355328 := by omega
        have HCL : Hid ((cnt + 1) * 48 ≤ 140737488355328 ∧ cnt + 1 ≤ maxLen) := ⟨hcl, by unfold maxLen; omega⟩
        clear hcl r2 ho kk2 p0 p1 p2
        go_wp2_with (at_builtin; refine wpList_append_lies _ rfl (.tmp 17) (.tmp 19) 24 rfl (w.heap.size + 1) 36 i6 (.agg #[.int .u64 0, .int .i64 0, .int .u64 0, .int .i64 0, .int .i64 0, .int .i64 0]) 6 48 Tryd.underlying24 hi6 hs6 hz6 hy6 rfl (by decide) u6 _ _ rfl ((oo.alloc _).alloc _) ⟨w2.heap.size + 1, 0, none⟩ 1 1 [.int .u64 v0, .int .i64 v1, .int .u64 v2, .int .i64 v3, .int .i64 v4, .int .i64 v5] rfl rfl ?cA ?cB (by decide) ?cC ?cD ?cE (w2.heap.size + 2) ?cF ?_)
        case cA => exact news_six _ _ _ _ _ _ _ _ _ (by simp)
        case cB => intro u hu; simp at hu; rcases hu with rfl | rfl | rfl | rfl | rfl | rfl <;> rfl
        case cC => exact HCL.out.2
        case cD => exact HCL.out.1
        case cE => simp; omega
        case cF => simp
        intro g cp y p q hg _
        have hfar : ∀ k, k < w2.heap.size → some k ≠ u6.ownBlock → y.heap[k]? = w2.heap[k]? := fun k hk hne => by
          rw [q.block k (by simp; omega) hne, Below.heap_alloc _ _ _ (by simp; omega), Below.heap_alloc _ _ _ hk]
        have ky : y.heap[w.heap.size]? = some (.cells #[.slice (some ⟨b, off, none⟩) L cap, .int .i64 a', .int .i64 0] 51 (0, 0)) := by
          rw [hfar w.heap.size (by omega) (fun e => by have := (oo.lt _ e.symm).1; omega), ← Below.heap_alloc w2 (.cells #[.int .u64 v0, .int .i64 v1, .int .u64 v2, .int .i64 v3, .int .i64 v4, .int .i64 v5] 36) w.heap.size (by omega)]
          exact k2
        have zy : w2.heap.size ≤ y.heap.size := by have := q.size; simp at this; omega
        have by' : Below w.heap.size w y := b2.trans ⟨q.os, q.tape, q.output, zy, fun k hk => hfar k (by omega) (fun e => by have := (oo.lt _ e.symm).1; omega)⟩
        have HP : Hid (y.ownsRow (w.heap.size + 1) 36 6 (.slice (some ⟨g, 0, none⟩) (cnt + 1) cp) (cnt + 1) (acc ++ [.int .u64 v0, .int .i64 v1, .int .u64 v2, .int .i64 v3, .int .i64 v4, .int .i64 v5])) := p
        clear p q hg oo b2 k2 q0 q1 q2 hfar
        go_wp2_with fail
        go_roundw
        case rel => exact ⟨m + 1, a', cnt + 1, _, 0, by go_num, by omega, ky, HP.out, by', by omega, by omega, hok.1, fun h => absurd rfl h, fun _ => by have := HS.out; simpa using this⟩
        case measure => simp [intOf]; omega
      · have hne : (e' != 0) = true := by simpa using he'
        have b2 : Below w.heap.size w w2 := hbw.trans ⟨r2.os, r2.tape, r2.output, r2.size, fun k hk => r2.far k (by have := hbw.size; omega) (by omega)⟩
        have b3 := b2.alloc b2.size (.cells #[.int .u64 v0, .int .i64 v1, .int .u64 v2, .int .i64 v3, .int .i64 v4, .int .i64 v5] 36)
        have HR : Hid (unAll B L = (acc, a', e')) := by have := HS.out; rwa [if_neg he'] at this
        clear r2 ho kk2 k2 p0 p1 p2 HS
        go_wp2_with fail
        go_region
        go_wp2_with fail
        have hres : AllRes (w.heap.size + 1) (unAll B L) (.slice none 0 0) 0 e' (w2.alloc (.cells #[.int .u64 v0, .int .i64 v1, .int .u64 v2, .int .i64 v3, .int .i64 v4, .int .i64 v5] 36)).drew := by
          unfold AllRes
          rw [HR.out, if_neg he']
          exact ⟨rfl, rfl, rfl⟩
        refine bodyPost_ret (v := .tuple #[.slice none 0 0, .int .i64 0, .int .i64 e']) ?_ rfl ⟨_, _, _, rfl, hres, b3.drew⟩
        simp [results, Tryd.results6, go_sem]
    · have hm' : m = N := by omega
      obtain ⟨q0, q1, q2⟩ := rdr_cells hk
      have i1 : ¬ (m : Int) < (N : Int) := by omega
      have HO : Hid (wr.ownsRow (w.heap.size + 1) 36 6 u6 cnt acc) := ho
      clear ho hk
      by_cases he : e = 0
      · have HR : Hid (unAll B L = (acc, a, 0)) := by
          have := hu2 he
          rw [hm', Nat.sub_self] at this
          exact this
        subst he
        clear hu1 hu2
        go_wp2_with fail
        go_region
        go_wp2_with fail
        have hres : AllRes (w.heap.size + 1) (unAll B L) u6 a 0 wr.drew := by
          unfold AllRes
          rw [HR.out, if_pos rfl]
          exact ⟨⟨cnt, HO.out⟩, rfl, rfl⟩
        refine bodyPost_ret (v := .tuple #[u6, .int .i64 a, .int .i64 0]) ?_ rfl ⟨_, _, _, rfl, hres, hbw.drew⟩
        simp [results, Tryd.results6, go_sem]
      · have HR : Hid (unAll B L = (acc, a, e)) := (hu1 he).2
        have hne : (e != 0) = true := by simpa using he
        clear hu1 hu2
        go_wp2_with fail
        go_region
        go_wp2_with fail
        have hres : AllRes (w.heap.size + 1) (unAll B L) (.slice none 0 0) 0 e wr.drew := by
          unfold AllRes
          rw [HR.out, if_neg he]
          exact ⟨rfl, rfl, rfl⟩
        refine bodyPost_ret (v := .tuple #[.slice none 0 0, .int .i64 0, .int .i64 e]) ?_ rfl ⟨_, _, _, rfl, hres, hbw.drew⟩
        simp [results, Tryd.results6, go_sem]
end Go.Proofs.YtcifdlncbekohaaDoor
