import Derived.Test.YtlklolmhaiaaiaaKYE3
import Derived.Test.YtlklolmhaiaaiaaKYW
import Derived.Test.YtlklolmhaiaaiaaKY20
namespace Go.Proofs.Ytlklolmhaiaaiaa
open Go.ChangeShapes Go.WideShapes Go.ChangeAt Go.RowKit
set_option linter.unusedVariables false
set_option linter.unusedSimpArgs false

theorem step_any {base qb g qr : Nat} {room wb : Int} (o : OpV) (W : World) (h : PR W base qb g qr room wb) (hwb : wb ≤ 4611686018427000000 - 16384) :
    Calls Try.prog 16 #[.pointer (some ⟨qb, 0, none⟩), .pointer (some ⟨qr, 0, none⟩), .agg (opA o)] W fun r W' => TRes base qb g qr room wb W r W' := by
  by_cases h1 : o.kd = 1
  · exact step_insert o W h hwb h1
  by_cases h2 : o.kd = 2
  · exact step_take2 o W h hwb h2
  by_cases h3 : o.kd = 3
  · exact step_take3 o W h hwb h3
  by_cases h4 : o.kd = 4
  · exact step_take4 o W h hwb h4
  by_cases h5 : o.kd = 5
  · exact step_take5 o W h hwb h5
  by_cases h6 : o.kd = 6
  · exact step_split o W h hwb h6
  by_cases h7 : o.kd = 7
  · exact step_sizes o W h hwb h7
  by_cases h8 : o.kd = 8
  · exact step_list o W h hwb h8
  by_cases h9 : o.kd = 9
  · exact step_each o W h hwb h9
  by_cases h10 : o.kd = 10
  · exact step_depths o W h hwb h10
  by_cases h11 : o.kd = 11
  · exact step_work o W h hwb h11
  refine step_other o W h hwb fun j hj => ?_
  simp at hj
  rcases hj with rfl | rfl | rfl | rfl | rfl | rfl | rfl | rfl | rfl | rfl | rfl <;> assumption
/-- one pair's calls leave the other pair -/
theorem PR.ch {W W' : World} {base base' qb g qr qb' g' qr' : Nat} {room wb room' wb' : Int} (h : PR W base qb g qr room wb) (h' : PR W base' qb' g' qr' room' wb') (hc : Ch (SQ qb' g' qr') W W') (n1 : qb ≠ qb') (n2 : g ≠ g') (n3 : qr ≠ qr') : PR W' base qb g qr room wb := by
  obtain ⟨c, n, A, t, fl, root, work, h1, h2, h3⟩ := h
  obtain ⟨c', n', A', t', fl', root', work', h1', h2', _⟩ := h'
  obtain ⟨⟨v1, k1⟩, v2, k2⟩ := h1.q.typ
  obtain ⟨⟨v1', k1'⟩, v2', k2'⟩ := h1'.q.typ
  obtain ⟨p, hb, hT⟩ := h2
  obtain ⟨p', hb', hT'⟩ := h2'
  have nt : ∀ (k : Nat) (v : Array Value) (ty : TypeId), W.heap[k]? = some (Obj.cells v ty (0, 0)) → (ty = 58 → k ≠ qb') → (ty = 67 → k ≠ g') → (ty = 82 → k ≠ qr') → ¬ SQ qb' g' qr' k := fun k v ty hk a1 a2 a3 e => by
    rcases e with e | e | e
    · subst e; exact a1 (typ_absurd hk k1') rfl
    · subst e; exact a2 (typ_absurd hk k2') rfl
    · subst e; exact a3 (typ_absurd hk hb') rfl
  refine ⟨c, n, A, t, fl, root, work, ⟨h1.q.keep hc (nt _ _ _ k1 (fun _ => n1) (fun e => absurd e (by decide)) (fun e => absurd e (by decide))) (nt _ _ _ k2 (fun e => absurd e (by decide)) (fun _ => n2) (fun e => absurd e (by decide))), h1.ti, h1.fr, h1.nd, h1.inr, h1.cnt, h1.z, h1.nr, h1.rm, h1.srt, h1.wk⟩, ?_, h3⟩
  exact RQ.keep ⟨p, hb, hT⟩ (hc.block qr (lt_of_block hb) (nt _ _ _ hb (fun e => absurd e (by decide)) (fun e => absurd e (by decide)) (fun _ => n3))) fun k v hk => hc.block k (lt_of_block hk) (nt _ _ _ hk (fun e => absurd e (by decide)) (fun e => absurd e (by decide)) (fun e => absurd e (by decide)))
theorem qs_nil {W : World} {base qb g : Nat} {room : Int} (h : QS base qb g room 0 [] W) : ∃ (c n : Nat) (A : Ar) (fl : List Nat) (root : Nat), QI W base qb g c n A .nil fl root room 0 := by
  obtain ⟨c, n, A, t, fl, root, work, hq, hL, hw⟩ := h
  have ht : t = .nil := by
    cases t with
    | nil => rfl
    | node l x r => simp [Tr.ps] at hL
  subst ht
  have : work = 0 := by have := hq.wk; omega
  subst this
  exact ⟨c, n, A, fl, root, hq⟩
theorem QI.lower {W : World} {base base' qb g c n : Nat} {A : Ar} {t : Tr} {fl : List Nat} {root : Nat} {room work : Int} (h : QI W base qb g c n A t fl root room work) (hb : base' ≤ base) : QI W base' qb g c n A t fl root room work := ⟨⟨h.q.box.lower hb, h.q.row.lower hb, h.q.ne⟩, h.ti, h.fr, h.nd, h.inr, h.cnt, h.z, h.nr, h.rm, h.srt, h.wk⟩
theorem pr_new {W : World} {base base' qb g qr : Nat} {room : Int} (h : QS base qb g room 0 [] W) (hb : base' ≤ base) (hr : ∀ E, RQ W qr E .nil room 0) : PR W base' qb g qr room 0 := by
  obtain ⟨c, n, A, fl, root, hq⟩ := qs_nil h
  exact ⟨c, n, A, .nil, fl, root, 0, hq.lower hb, hr _, Int.le_refl 0⟩
theorem PR.base {W : World} {base qb g qr : Nat} {room wb : Int} (h : PR W base qb g qr room wb) : base ≤ qb ∧ base ≤ g := by
  obtain ⟨c, n, A, t, fl, root, work, h1, _⟩ := h
  exact ⟨h1.q.lt.1.2, h1.q.lt.2.2⟩
theorem sq_below {W w5 w6 : World} {qb g qr : Nat} {room wb : Int} (h : PR w5 W.heap.size qb g qr room wb) (hqr : W.heap.size ≤ qr) (hs : W.heap.size ≤ w5.heap.size) (hC : Ch (SQ qb g qr) w5 w6) : Below W.heap.size w5 w6 := hC.toBelow hs (by
  have hb := h.base
  rintro k (e | e | e) <;> omega)
set_option maxRecDepth 100000 in
set_option maxHeartbeats 16000000 in
theorem plays_gg (r1 r2 : Int) (p : Option Addr) (N c : Nat) (O : Nat → OpV) (W : World) (a1 : 1 ≤ r1) (a2 : r1 ≤ 8192) (b1 : 1 ≤ r2) (b2 : r2 ≤ 8192) (hk : OpsIn W p N O) (hN : N ≤ 3000000000000) :
    Calls Try.prog 4 #[.int .i64 r1, .int .i64 r2, .slice p N c] W fun e W' => e = .returned (.bool true) ∧ Below W.heap.size W W' := by
  have HN1 := q_new r1 a1 a2 W
  have HN2 := fun w => q_new r2 b1 b2 w
  have HN3 := fun (w : World) (E : Nat → Ev) => rnew_good r1 w a1 a2 E
  have HN4 := fun (w : World) (E : Nat → Ev) => rnew_good r2 w b1 b2 E
  have HK : Hid (OpsIn W p N O ∧ N ≤ 3000000000000 ∧ (1 ≤ r1 ∧ r1 ≤ 8192) ∧ (1 ≤ r2 ∧ r2 ≤ 8192)) := ⟨hk, hN, ⟨a1, a2⟩, ⟨b1, b2⟩⟩
  clear hk hN a1 a2 b1 b2
  go_enter Try.func4, Try.ntmps4
  go_upto_region 2 with (go_at_call 6; (with_reducible refine HN1.mono ?_); rintro e w1 ⟨qb, nb, rfl, hq, hO, hne, hqs, hb1⟩; have HQ1 : Hid (QS W.heap.size qb nb r1 0 [] w1 ∧ Below W.heap.size W w1) := ⟨new_QS hq hO hne hqs ⟨HK.out.2.2.1.1, HK.out.2.2.1.2⟩, hb1⟩; clear hq hO hne hqs hb1)
  go_upto_region 3 with (go_at_call 6; (with_reducible refine (HN2 w1).mono ?_); rintro e w2 ⟨qb2, nb2, rfl, hq, hO, hne, hqs, hb2⟩; have HQ2 : Hid (QS w1.heap.size qb2 nb2 r2 0 [] w2 ∧ Below w1.heap.size w1 w2) := ⟨new_QS hq hO hne hqs ⟨HK.out.2.2.2.1, HK.out.2.2.2.2⟩, hb2⟩; clear hq hO hne hqs hb2)
  go_upto_region 4 with (go_at_call 15; (with_reducible refine (HN3 w2 (fun _ => ev0)).mono ?_); rintro e w3 ⟨rfl, hr3, hb3⟩; have HQ3 : Hid (RQ w3 w2.heap.size (fun _ => ev0) .nil r1 0 ∧ Below w2.heap.size w2 w3) := ⟨hr3, hb3⟩; clear hr3 hb3)
  go_upto_region 7 with (go_at_call 15; (with_reducible refine (HN4 w3 (fun _ => ev0)).mono ?_); rintro e w4 ⟨rfl, hr4, hb4⟩; have HQ4 : Hid (RQ w4 w3.heap.size (fun _ => ev0) .nil r2 0 ∧ Below w3.heap.size w3 w4) := ⟨hr4, hb4⟩; clear hr4 hb4)
  have hB1 : Below W.heap.size W w1 := HQ1.out.2
  have hB2 : Below w1.heap.size w1 w2 := HQ2.out.2
  have hB3 : Below w2.heap.size w2 w3 := HQ3.out.2
  have hB4 : Below w3.heap.size w3 w4 := HQ4.out.2
  have hs1 := hB1.size
  have hs2 := hB2.size
  have hs3 := hB3.size
  have hs4 := hB4.size
  have hp1 : PR w4 W.heap.size qb nb w2.heap.size r1 0 := pr_new (((HQ1.out.1.later hB2).later hB3).later hB4) (Nat.le_refl _) fun E => (HQ3.out.1.later hB4).congr fun x hx => by simp [Tr.ps] at hx
  have hl1 := HQ1.out.1.lt
  have hr1 := HQ3.out.1.lt
  have hp2 : PR w4 W.heap.size qb2 nb2 w3.heap.size r2 0 := pr_new ((HQ2.out.1.later hB3).later hB4) hs1 fun E => HQ4.out.1.congr fun x hx => by simp [Tr.ps] at hx
  have hl2 := HQ2.out.1.lt
  have HQ : Hid ((PR w4 W.heap.size qb nb w2.heap.size r1 0) ∧ (PR w4 W.heap.size qb2 nb2 w3.heap.size r2 0) ∧ (qb ≠ qb2 ∧ nb ≠ nb2 ∧ w2.heap.size ≠ w3.heap.size) ∧ Below W.heap.size W w4 ∧ W.heap.size ≤ w2.heap.size ∧ W.heap.size ≤ w3.heap.size) := ⟨hp1, hp2, ⟨by omega, by omega, by omega⟩, hB1.trans ((hB2.mono hs1).trans ((hB3.mono (by omega)).trans (hB4.mono (by omega)))), by omega, by omega⟩
  clear hp1 hp2 hB1 hB2 hB3 hB4 hs1 hs2 hs3 hs4 hl1 hr1 hl2 HN1 HN2 HN3 HN4 HQ1 HQ2 HQ3 HQ4
  go_wp2_with fail
  go_loopw [15] (fun x wr => ∃ (i g h : Nat), x = .int .i64 (i : Int) ∧ i ≤ N ∧ (PR wr W.heap.size qb g w2.heap.size r1 (16384 * (i : Int))) ∧ (PR wr W.heap.size qb2 h w3.heap.size r2 (16384 * (i : Int))) ∧ (qb ≠ qb2 ∧ g ≠ h ∧ w2.heap.size ≠ w3.heap.size) ∧ Below W.heap.size W wr) (fun x _ => N - (intOf x).toNat)
  case atStart => exact ⟨0, nb, nb2, rfl, Nat.zero_le _, HQ.out.1, HQ.out.2.1, HQ.out.2.2.1, HQ.out.2.2.2.1⟩
  case round =>
    obtain ⟨i, g, h, rfl, hiN, hp1, hp2, hap, hbr⟩ := hrel
    have HSZ : Hid (W.heap.size ≤ w2.heap.size ∧ W.heap.size ≤ w3.heap.size) := HQ.out.2.2.2.2
    have HI : Hid ((PR wr W.heap.size qb g w2.heap.size r1 (16384 * (i : Int))) ∧ (PR wr W.heap.size qb2 h w3.heap.size r2 (16384 * (i : Int))) ∧ (qb ≠ qb2 ∧ g ≠ h ∧ w2.heap.size ≠ w3.heap.size) ∧ Below W.heap.size W wr) := ⟨hp1, hp2, hap, hbr⟩
    clear HQ hp1 hp2 hap hbr
    by_cases hlt : i < N
    · have dl : decide ((i : Int) < (N : Int)) = true := by simp; omega
      have i0 : (0 : Int) ≤ (i : Int) := by omega
      have i1 : (i : Int) < (N : Int) := by omega
      obtain ⟨hk, hN, _, _⟩ := HK.out
      obtain ⟨b, o, hp, hbl, hcells⟩ : ∃ b o, p = some ⟨b, o, none⟩ ∧ b < W.heap.size ∧ ∀ i r, i < N → r < 7 → W.cell? ⟨b, o + i * 7 + r, none⟩ = some ((opA (O i)).toList.getD r undef) := by
        rcases hk with h9 | h9
        · omega
        · exact h9
      subst hp
      have hcw : ∀ r, r < 7 → wr.cell? ⟨b, o + i * 7 + r, none⟩ = some ((opA (O i)).toList.getD r undef) := fun r hr => (cell_below (a := ⟨b, o + i * 7 + r, none⟩) HI.out.2.2.2 hbl).trans (hcells i r hlt hr)
      have x0 : wr.cell? ⟨b, o + i * 7, none⟩ = some (.int .i64 (O i).kd) := hcw 0 (by decide)
      have x1 : wr.cell? ⟨b, o + i * 7 + 1, none⟩ = some (.int .i64 (O i).wh) := hcw 1 (by decide)
      have x2 : wr.cell? ⟨b, o + i * 7 + 2, none⟩ = some (.int .u64 (O i).t) := hcw 2 (by decide)
      have x3 : wr.cell? ⟨b, o + i * 7 + 3, none⟩ = some (.int .i64 (O i).s) := hcw 3 (by decide)
      have x4 : wr.cell? ⟨b, o + i * 7 + 4, none⟩ = some (.int .u64 (O i).q) := hcw 4 (by decide)
      have x5 : wr.cell? ⟨b, o + i * 7 + 5, none⟩ = some (.int .i64 (O i).d) := hcw 5 (by decide)
      have x6 : wr.cell? ⟨b, o + i * 7 + 6, none⟩ = some (.int .i64 (O i).n) := hcw 6 (by decide)
      have ei : IntKind.i64.wrap ((i : Int) + 1) = (i : Int) + 1 := by rw [IntKind.wrap_i64]; omega
      have hm := meas0 hlt
      obtain ⟨w5, hw5⟩ : ∃ w5, wr.alloc (.cells #[.int .i64 (O i).kd, .int .i64 (O i).wh, .int .u64 (O i).t, .int .i64 (O i).s, .int .u64 (O i).q, .int .i64 (O i).d, .int .i64 (O i).n] 32) = w5 := ⟨_, rfl⟩
      have HW5 : Hid (wr.alloc (.cells #[.int .i64 (O i).kd, .int .i64 (O i).wh, .int .u64 (O i).t, .int .i64 (O i).s, .int .u64 (O i).q, .int .i64 (O i).d, .int .i64 (O i).n] 32) = w5) := hw5
      have hb5 : Below wr.heap.size wr w5 := by rw [← hw5]; exact (Below.refl _ _).alloc (Nat.le_refl _) _
      have ho5 : w5.heap[wr.heap.size]? = some (.cells #[.int .i64 (O i).kd, .int .i64 (O i).wh, .int .u64 (O i).t, .int .i64 (O i).s, .int .u64 (O i).q, .int .i64 (O i).d, .int .i64 (O i).n] 32 (0, 0)) := by rw [← hw5]; exact World.alloc_heap_new wr _
      have lo5 := lt_of_block ho5
      have HB5 : Hid (Below wr.heap.size wr w5) := hb5
      obtain ⟨y0, y1, y2, y3, y4, y5, y6⟩ := c7 ho5
      clear hw5 hcw hcells hk hbl hb5 ho5
      go_upto_region 11 with fail
      rw [HW5.out]
      clear x0 x1 x2 x3 x4 x5 x6
      have HA1 : Hid (∀ w, w = w5 → Calls Try.prog 16 #[.pointer (some ⟨qb, 0, none⟩), .pointer (some ⟨w2.heap.size, 0, none⟩), .agg (opA (O i))] w5 fun r W' => TRes W.heap.size qb g w2.heap.size r1 (16384 * (i : Int)) w5 r W') := fun w _ => step_any (O i) w5 (HI.out.1.ke (KE.below HB5.out)) (by omega)
      unfold opA at HA1
      have HA2 : Hid (∀ w, w = w5 → Calls Try.prog 16 #[.pointer (some ⟨qb2, 0, none⟩), .pointer (some ⟨w3.heap.size, 0, none⟩), .agg (opA (O i))] w5 fun r W' => TRes W.heap.size qb2 h w3.heap.size r2 (16384 * (i : Int)) w5 r W') := fun w _ => step_any (O i) w5 (HI.out.2.1.ke (KE.below HB5.out)) (by omega)
      unfold opA at HA2
      clear hN
      go_wp2_with (first | (go_at_call 16; (with_reducible refine (HA1.out _ rfl).mono ?_); rintro r w6 ⟨rfl, hres⟩; have HR1 : Hid (∃ g', PR w6 W.heap.size qb g' w2.heap.size r1 (16384 * (i : Int) + 16384) ∧ (g' = g ∨ w5.heap.size ≤ g') ∧ Ch (SQ qb g w2.heap.size) w5 w6) := hres; clear hres) | (go_at_call 16; (with_reducible refine (HA2.out _ rfl).mono ?_); rintro r w6 ⟨rfl, hres⟩; have HR2 : Hid (∃ g', PR w6 W.heap.size qb2 g' w3.heap.size r2 (16384 * (i : Int) + 16384) ∧ (g' = h ∨ w5.heap.size ≤ g') ∧ Ch (SQ qb2 h w3.heap.size) w5 w6) := hres; clear hres))
      · obtain ⟨hp1, hp2, hap, hbr⟩ := HI.out
        have hb5 := HB5.out
        have hs5 := hb5.size
        have hbs := hbr.size
        have hl1 := hp1.lt
        have k1 := hp1.ke (KE.below HB5.out)
        have hl2 := hp2.lt
        have k2 := hp2.ke (KE.below HB5.out)
        obtain ⟨g', hp6, hg6, hC6⟩ := HR2.out
        exact ⟨⟨i + 1, g, g', rfl, hlt, ((k1.ch k2 hC6 hap.1 hap.2.1 hap.2.2).up (by omega)), hp6.up (by omega), ⟨hap.1, by have := hap.2.1; rcases hg6 with e | e <;> omega, hap.2.2⟩, (hbr.trans (hb5.mono hbs)).trans (sq_below k2 HSZ.out.2 (by omega) hC6)⟩, hm⟩
      · obtain ⟨hp1, hp2, hap, hbr⟩ := HI.out
        have hb5 := HB5.out
        have hs5 := hb5.size
        have hbs := hbr.size
        have hl1 := hp1.lt
        have k1 := hp1.ke (KE.below HB5.out)
        have hl2 := hp2.lt
        have k2 := hp2.ke (KE.below HB5.out)
        obtain ⟨g', hp6, hg6, hC6⟩ := HR1.out
        exact ⟨⟨i + 1, g', h, rfl, hlt, hp6.up (by omega), ((k2.ch k1 hC6 hap.1.symm hap.2.1.symm hap.2.2.symm).up (by omega)), ⟨hap.1, by have := hap.2.1; rcases hg6 with e | e <;> omega, hap.2.2⟩, (hbr.trans (hb5.mono hbs)).trans (sq_below k1 HSZ.out.1 (by omega) hC6)⟩, hm⟩
    · have dl : decide ((i : Int) < (N : Int)) = false := by simp; omega
      have HF : Hid (Below W.heap.size W wr) := HI.out.2.2.2
      go_wp2_with fail
      go_ret
      exact ⟨rfl, HF.out⟩
set_option maxRecDepth 100000 in
set_option maxHeartbeats 16000000 in
theorem plays_gb (r1 r2 : Int) (p : Option Addr) (N c : Nat) (O : Nat → OpV) (W : World) (a1 : 1 ≤ r1) (a2 : r1 ≤ 8192) (b1 : r2 < 1 ∨ 8192 < r2) (hk : OpsIn W p N O) (hN : N ≤ 3000000000000) :
    Calls Try.prog 4 #[.int .i64 r1, .int .i64 r2, .slice p N c] W fun e W' => e = .returned (.bool true) ∧ Below W.heap.size W W' := by
  have HN1 := q_new r1 a1 a2 W
  have HN2 := fun w => q_newBad r2 b1 w
  have HN3 := fun (w : World) (E : Nat → Ev) => rnew_good r1 w a1 a2 E
  have HN4 := fun (w : World) (_ : Nat → Ev) => rnew_bad r2 w b1
  have HK : Hid (OpsIn W p N O ∧ N ≤ 3000000000000 ∧ (1 ≤ r1 ∧ r1 ≤ 8192) ∧ True) := ⟨hk, hN, ⟨a1, a2⟩, trivial⟩
  clear hk hN a1 a2 b1 
  go_enter Try.func4, Try.ntmps4
  go_upto_region 2 with (go_at_call 6; (with_reducible refine HN1.mono ?_); rintro e w1 ⟨qb, nb, rfl, hq, hO, hne, hqs, hb1⟩; have HQ1 : Hid (QS W.heap.size qb nb r1 0 [] w1 ∧ Below W.heap.size W w1) := ⟨new_QS hq hO hne hqs ⟨HK.out.2.2.1.1, HK.out.2.2.1.2⟩, hb1⟩; clear hq hO hne hqs hb1)
  go_upto_region 3 with (go_at_call 6; (with_reducible refine (HN2 w1).mono ?_); rintro e w2 ⟨rfl, h9⟩; have h9 := h9.symm; subst h9; have HQ2 : Hid (Below w1.heap.size w1 w1) := Below.refl _ _)
  go_upto_region 4 with (go_at_call 15; (with_reducible refine (HN3 w1 (fun _ => ev0)).mono ?_); rintro e w3 ⟨rfl, hr3, hb3⟩; have HQ3 : Hid (RQ w3 w1.heap.size (fun _ => ev0) .nil r1 0 ∧ Below w1.heap.size w1 w3) := ⟨hr3, hb3⟩; clear hr3 hb3)
  go_upto_region 7 with (go_at_call 15; (with_reducible refine (HN4 w3 (fun _ => ev0)).mono ?_); rintro e w4 ⟨rfl, hb4⟩; have HQ4 : Hid (Below w3.heap.size w3 w4) := hb4; clear hb4)
  have hB1 : Below W.heap.size W w1 := HQ1.out.2
  have hB2 : Below w1.heap.size w1 w1 := HQ2.out
  have hB3 : Below w1.heap.size w1 w3 := HQ3.out.2
  have hB4 : Below w3.heap.size w3 w4 := HQ4.out
  have hs1 := hB1.size
  have hs2 := hB2.size
  have hs3 := hB3.size
  have hs4 := hB4.size
  have hp1 : PR w4 W.heap.size qb nb w1.heap.size r1 0 := pr_new (((HQ1.out.1.later hB2).later hB3).later hB4) (Nat.le_refl _) fun E => (HQ3.out.1.later hB4).congr fun x hx => by simp [Tr.ps] at hx
  have hl1 := HQ1.out.1.lt
  have hr1 := HQ3.out.1.lt
  have hp2 : True := trivial
  have HQ : Hid ((PR w4 W.heap.size qb nb w1.heap.size r1 0) ∧ (True) ∧ (True) ∧ Below W.heap.size W w4 ∧ W.heap.size ≤ w1.heap.size ∧ W.heap.size ≤ w3.heap.size) := ⟨hp1, hp2, trivial, hB1.trans ((hB2.mono hs1).trans ((hB3.mono (by omega)).trans (hB4.mono (by omega)))), by omega, by omega⟩
  clear hp1 hp2 hB1 hB2 hB3 hB4 hs1 hs2 hs3 hs4 hl1 hr1 HN1 HN2 HN3 HN4 HQ1 HQ2 HQ3 HQ4
  go_wp2_with fail
  go_loopw [15] (fun x wr => ∃ (i g h : Nat), x = .int .i64 (i : Int) ∧ i ≤ N ∧ (PR wr W.heap.size qb g w1.heap.size r1 (16384 * (i : Int))) ∧ (True) ∧ (True) ∧ Below W.heap.size W wr) (fun x _ => N - (intOf x).toNat)
  case atStart => exact ⟨0, nb, 0, rfl, Nat.zero_le _, HQ.out.1, HQ.out.2.1, HQ.out.2.2.1, HQ.out.2.2.2.1⟩
  case round =>
    obtain ⟨i, g, h, rfl, hiN, hp1, hp2, hap, hbr⟩ := hrel
    have HSZ : Hid (W.heap.size ≤ w1.heap.size ∧ W.heap.size ≤ w3.heap.size) := HQ.out.2.2.2.2
    have HI : Hid ((PR wr W.heap.size qb g w1.heap.size r1 (16384 * (i : Int))) ∧ (True) ∧ (True) ∧ Below W.heap.size W wr) := ⟨hp1, hp2, hap, hbr⟩
    clear HQ hp1 hp2 hap hbr
    by_cases hlt : i < N
    · have dl : decide ((i : Int) < (N : Int)) = true := by simp; omega
      have i0 : (0 : Int) ≤ (i : Int) := by omega
      have i1 : (i : Int) < (N : Int) := by omega
      obtain ⟨hk, hN, _, _⟩ := HK.out
      obtain ⟨b, o, hp, hbl, hcells⟩ : ∃ b o, p = some ⟨b, o, none⟩ ∧ b < W.heap.size ∧ ∀ i r, i < N → r < 7 → W.cell? ⟨b, o + i * 7 + r, none⟩ = some ((opA (O i)).toList.getD r undef) := by
        rcases hk with h9 | h9
        · omega
        · exact h9
      subst hp
      have hcw : ∀ r, r < 7 → wr.cell? ⟨b, o + i * 7 + r, none⟩ = some ((opA (O i)).toList.getD r undef) := fun r hr => (cell_below (a := ⟨b, o + i * 7 + r, none⟩) HI.out.2.2.2 hbl).trans (hcells i r hlt hr)
      have x0 : wr.cell? ⟨b, o + i * 7, none⟩ = some (.int .i64 (O i).kd) := hcw 0 (by decide)
      have x1 : wr.cell? ⟨b, o + i * 7 + 1, none⟩ = some (.int .i64 (O i).wh) := hcw 1 (by decide)
      have x2 : wr.cell? ⟨b, o + i * 7 + 2, none⟩ = some (.int .u64 (O i).t) := hcw 2 (by decide)
      have x3 : wr.cell? ⟨b, o + i * 7 + 3, none⟩ = some (.int .i64 (O i).s) := hcw 3 (by decide)
      have x4 : wr.cell? ⟨b, o + i * 7 + 4, none⟩ = some (.int .u64 (O i).q) := hcw 4 (by decide)
      have x5 : wr.cell? ⟨b, o + i * 7 + 5, none⟩ = some (.int .i64 (O i).d) := hcw 5 (by decide)
      have x6 : wr.cell? ⟨b, o + i * 7 + 6, none⟩ = some (.int .i64 (O i).n) := hcw 6 (by decide)
      have ei : IntKind.i64.wrap ((i : Int) + 1) = (i : Int) + 1 := by rw [IntKind.wrap_i64]; omega
      have hm := meas0 hlt
      obtain ⟨w5, hw5⟩ : ∃ w5, wr.alloc (.cells #[.int .i64 (O i).kd, .int .i64 (O i).wh, .int .u64 (O i).t, .int .i64 (O i).s, .int .u64 (O i).q, .int .i64 (O i).d, .int .i64 (O i).n] 32) = w5 := ⟨_, rfl⟩
      have HW5 : Hid (wr.alloc (.cells #[.int .i64 (O i).kd, .int .i64 (O i).wh, .int .u64 (O i).t, .int .i64 (O i).s, .int .u64 (O i).q, .int .i64 (O i).d, .int .i64 (O i).n] 32) = w5) := hw5
      have hb5 : Below wr.heap.size wr w5 := by rw [← hw5]; exact (Below.refl _ _).alloc (Nat.le_refl _) _
      have ho5 : w5.heap[wr.heap.size]? = some (.cells #[.int .i64 (O i).kd, .int .i64 (O i).wh, .int .u64 (O i).t, .int .i64 (O i).s, .int .u64 (O i).q, .int .i64 (O i).d, .int .i64 (O i).n] 32 (0, 0)) := by rw [← hw5]; exact World.alloc_heap_new wr _
      have lo5 := lt_of_block ho5
      have HB5 : Hid (Below wr.heap.size wr w5) := hb5
      obtain ⟨y0, y1, y2, y3, y4, y5, y6⟩ := c7 ho5
      clear hw5 hcw hcells hk hbl hb5 ho5
      go_upto_region 11 with fail
      rw [HW5.out]
      clear x0 x1 x2 x3 x4 x5 x6
      have HA1 : Hid (∀ w, w = w5 → Calls Try.prog 16 #[.pointer (some ⟨qb, 0, none⟩), .pointer (some ⟨w1.heap.size, 0, none⟩), .agg (opA (O i))] w5 fun r W' => TRes W.heap.size qb g w1.heap.size r1 (16384 * (i : Int)) w5 r W') := fun w _ => step_any (O i) w5 (HI.out.1.ke (KE.below HB5.out)) (by omega)
      unfold opA at HA1
      clear hN
      go_wp2_with (first | (go_at_call 16; (with_reducible refine (HA1.out _ rfl).mono ?_); rintro r w6 ⟨rfl, hres⟩; have HR1 : Hid (∃ g', PR w6 W.heap.size qb g' w1.heap.size r1 (16384 * (i : Int) + 16384) ∧ (g' = g ∨ w5.heap.size ≤ g') ∧ Ch (SQ qb g w1.heap.size) w5 w6) := hres; clear hres))
      · obtain ⟨hp1, hp2, hap, hbr⟩ := HI.out
        have hb5 := HB5.out
        have hs5 := hb5.size
        have hbs := hbr.size
        have hl1 := hp1.lt
        have k1 := hp1.ke (KE.below HB5.out)
        exact ⟨⟨i + 1, g, h, rfl, hlt, (k1.up (by omega)), trivial, hap, hbr.trans (hb5.mono hbs)⟩, hm⟩
      · obtain ⟨hp1, hp2, hap, hbr⟩ := HI.out
        have hb5 := HB5.out
        have hs5 := hb5.size
        have hbs := hbr.size
        have hl1 := hp1.lt
        have k1 := hp1.ke (KE.below HB5.out)
        obtain ⟨g', hp6, hg6, hC6⟩ := HR1.out
        exact ⟨⟨i + 1, g', h, rfl, hlt, hp6.up (by omega), trivial, trivial, (hbr.trans (hb5.mono hbs)).trans (sq_below k1 HSZ.out.1 (by omega) hC6)⟩, hm⟩
    · have dl : decide ((i : Int) < (N : Int)) = false := by simp; omega
      have HF : Hid (Below W.heap.size W wr) := HI.out.2.2.2
      go_wp2_with fail
      go_ret
      exact ⟨rfl, HF.out⟩
set_option maxRecDepth 100000 in
set_option maxHeartbeats 16000000 in
theorem plays_bg (r1 r2 : Int) (p : Option Addr) (N c : Nat) (O : Nat → OpV) (W : World) (a1 : r1 < 1 ∨ 8192 < r1) (b1 : 1 ≤ r2) (b2 : r2 ≤ 8192) (hk : OpsIn W p N O) (hN : N ≤ 3000000000000) :
    Calls Try.prog 4 #[.int .i64 r1, .int .i64 r2, .slice p N c] W fun e W' => e = .returned (.bool true) ∧ Below W.heap.size W W' := by
  have HN1 := q_newBad r1 a1 W
  have HN2 := fun w => q_new r2 b1 b2 w
  have HN3 := fun (w : World) (_ : Nat → Ev) => rnew_bad r1 w a1
  have HN4 := fun (w : World) (E : Nat → Ev) => rnew_good r2 w b1 b2 E
  have HK : Hid (OpsIn W p N O ∧ N ≤ 3000000000000 ∧ True ∧ (1 ≤ r2 ∧ r2 ≤ 8192)) := ⟨hk, hN, trivial, ⟨b1, b2⟩⟩
  clear hk hN a1 b1 b2
  go_enter Try.func4, Try.ntmps4
  go_upto_region 2 with (go_at_call 6; (with_reducible refine HN1.mono ?_); rintro e w1 ⟨rfl, h9⟩; have h9 := h9.symm; subst h9; have HQ1 : Hid (Below W.heap.size W W) := Below.refl _ _)
  go_upto_region 3 with (go_at_call 6; (with_reducible refine (HN2 W).mono ?_); rintro e w2 ⟨qb2, nb2, rfl, hq, hO, hne, hqs, hb2⟩; have HQ2 : Hid (QS W.heap.size qb2 nb2 r2 0 [] w2 ∧ Below W.heap.size W w2) := ⟨new_QS hq hO hne hqs ⟨HK.out.2.2.2.1, HK.out.2.2.2.2⟩, hb2⟩; clear hq hO hne hqs hb2)
  go_upto_region 4 with (go_at_call 15; (with_reducible refine (HN3 w2 (fun _ => ev0)).mono ?_); rintro e w3 ⟨rfl, hb3⟩; have HQ3 : Hid (Below w2.heap.size w2 w3) := hb3; clear hb3)
  go_upto_region 7 with (go_at_call 15; (with_reducible refine (HN4 w3 (fun _ => ev0)).mono ?_); rintro e w4 ⟨rfl, hr4, hb4⟩; have HQ4 : Hid (RQ w4 w3.heap.size (fun _ => ev0) .nil r2 0 ∧ Below w3.heap.size w3 w4) := ⟨hr4, hb4⟩; clear hr4 hb4)
  have hB1 : Below W.heap.size W W := HQ1.out
  have hB2 : Below W.heap.size W w2 := HQ2.out.2
  have hB3 : Below w2.heap.size w2 w3 := HQ3.out
  have hB4 : Below w3.heap.size w3 w4 := HQ4.out.2
  have hs1 := hB1.size
  have hs2 := hB2.size
  have hs3 := hB3.size
  have hs4 := hB4.size
  have hp1 : True := trivial
  have hp2 : PR w4 W.heap.size qb2 nb2 w3.heap.size r2 0 := pr_new ((HQ2.out.1.later hB3).later hB4) hs1 fun E => HQ4.out.1.congr fun x hx => by simp [Tr.ps] at hx
  have hl2 := HQ2.out.1.lt
  have HQ : Hid ((True) ∧ (PR w4 W.heap.size qb2 nb2 w3.heap.size r2 0) ∧ (True) ∧ Below W.heap.size W w4 ∧ W.heap.size ≤ w2.heap.size ∧ W.heap.size ≤ w3.heap.size) := ⟨hp1, hp2, trivial, hB1.trans ((hB2.mono hs1).trans ((hB3.mono (by omega)).trans (hB4.mono (by omega)))), by omega, by omega⟩
  clear hp1 hp2 hB1 hB2 hB3 hB4 hs1 hs2 hs3 hs4 hl2 HN1 HN2 HN3 HN4 HQ1 HQ2 HQ3 HQ4
  go_wp2_with fail
  go_loopw [15] (fun x wr => ∃ (i g h : Nat), x = .int .i64 (i : Int) ∧ i ≤ N ∧ (True) ∧ (PR wr W.heap.size qb2 h w3.heap.size r2 (16384 * (i : Int))) ∧ (True) ∧ Below W.heap.size W wr) (fun x _ => N - (intOf x).toNat)
  case atStart => exact ⟨0, 0, nb2, rfl, Nat.zero_le _, HQ.out.1, HQ.out.2.1, HQ.out.2.2.1, HQ.out.2.2.2.1⟩
  case round =>
    obtain ⟨i, g, h, rfl, hiN, hp1, hp2, hap, hbr⟩ := hrel
    have HSZ : Hid (W.heap.size ≤ w2.heap.size ∧ W.heap.size ≤ w3.heap.size) := HQ.out.2.2.2.2
    have HI : Hid ((True) ∧ (PR wr W.heap.size qb2 h w3.heap.size r2 (16384 * (i : Int))) ∧ (True) ∧ Below W.heap.size W wr) := ⟨hp1, hp2, hap, hbr⟩
    clear HQ hp1 hp2 hap hbr
    by_cases hlt : i < N
    · have dl : decide ((i : Int) < (N : Int)) = true := by simp; omega
      have i0 : (0 : Int) ≤ (i : Int) := by omega
      have i1 : (i : Int) < (N : Int) := by omega
      obtain ⟨hk, hN, _, _⟩ := HK.out
      obtain ⟨b, o, hp, hbl, hcells⟩ : ∃ b o, p = some ⟨b, o, none⟩ ∧ b < W.heap.size ∧ ∀ i r, i < N → r < 7 → W.cell? ⟨b, o + i * 7 + r, none⟩ = some ((opA (O i)).toList.getD r undef) := by
        rcases hk with h9 | h9
        · omega
        · exact h9
      subst hp
      have hcw : ∀ r, r < 7 → wr.cell? ⟨b, o + i * 7 + r, none⟩ = some ((opA (O i)).toList.getD r undef) := fun r hr => (cell_below (a := ⟨b, o + i * 7 + r, none⟩) HI.out.2.2.2 hbl).trans (hcells i r hlt hr)
      have x0 : wr.cell? ⟨b, o + i * 7, none⟩ = some (.int .i64 (O i).kd) := hcw 0 (by decide)
      have x1 : wr.cell? ⟨b, o + i * 7 + 1, none⟩ = some (.int .i64 (O i).wh) := hcw 1 (by decide)
      have x2 : wr.cell? ⟨b, o + i * 7 + 2, none⟩ = some (.int .u64 (O i).t) := hcw 2 (by decide)
      have x3 : wr.cell? ⟨b, o + i * 7 + 3, none⟩ = some (.int .i64 (O i).s) := hcw 3 (by decide)
      have x4 : wr.cell? ⟨b, o + i * 7 + 4, none⟩ = some (.int .u64 (O i).q) := hcw 4 (by decide)
      have x5 : wr.cell? ⟨b, o + i * 7 + 5, none⟩ = some (.int .i64 (O i).d) := hcw 5 (by decide)
      have x6 : wr.cell? ⟨b, o + i * 7 + 6, none⟩ = some (.int .i64 (O i).n) := hcw 6 (by decide)
      have ei : IntKind.i64.wrap ((i : Int) + 1) = (i : Int) + 1 := by rw [IntKind.wrap_i64]; omega
      have hm := meas0 hlt
      obtain ⟨w5, hw5⟩ : ∃ w5, wr.alloc (.cells #[.int .i64 (O i).kd, .int .i64 (O i).wh, .int .u64 (O i).t, .int .i64 (O i).s, .int .u64 (O i).q, .int .i64 (O i).d, .int .i64 (O i).n] 32) = w5 := ⟨_, rfl⟩
      have HW5 : Hid (wr.alloc (.cells #[.int .i64 (O i).kd, .int .i64 (O i).wh, .int .u64 (O i).t, .int .i64 (O i).s, .int .u64 (O i).q, .int .i64 (O i).d, .int .i64 (O i).n] 32) = w5) := hw5
      have hb5 : Below wr.heap.size wr w5 := by rw [← hw5]; exact (Below.refl _ _).alloc (Nat.le_refl _) _
      have ho5 : w5.heap[wr.heap.size]? = some (.cells #[.int .i64 (O i).kd, .int .i64 (O i).wh, .int .u64 (O i).t, .int .i64 (O i).s, .int .u64 (O i).q, .int .i64 (O i).d, .int .i64 (O i).n] 32 (0, 0)) := by rw [← hw5]; exact World.alloc_heap_new wr _
      have lo5 := lt_of_block ho5
      have HB5 : Hid (Below wr.heap.size wr w5) := hb5
      obtain ⟨y0, y1, y2, y3, y4, y5, y6⟩ := c7 ho5
      clear hw5 hcw hcells hk hbl hb5 ho5
      go_upto_region 11 with fail
      rw [HW5.out]
      clear x0 x1 x2 x3 x4 x5 x6
      have HA2 : Hid (∀ w, w = w5 → Calls Try.prog 16 #[.pointer (some ⟨qb2, 0, none⟩), .pointer (some ⟨w3.heap.size, 0, none⟩), .agg (opA (O i))] w5 fun r W' => TRes W.heap.size qb2 h w3.heap.size r2 (16384 * (i : Int)) w5 r W') := fun w _ => step_any (O i) w5 (HI.out.2.1.ke (KE.below HB5.out)) (by omega)
      unfold opA at HA2
      clear hN
      go_wp2_with (first | (go_at_call 16; (with_reducible refine (HA2.out _ rfl).mono ?_); rintro r w6 ⟨rfl, hres⟩; have HR2 : Hid (∃ g', PR w6 W.heap.size qb2 g' w3.heap.size r2 (16384 * (i : Int) + 16384) ∧ (g' = h ∨ w5.heap.size ≤ g') ∧ Ch (SQ qb2 h w3.heap.size) w5 w6) := hres; clear hres))
      · obtain ⟨hp1, hp2, hap, hbr⟩ := HI.out
        have hb5 := HB5.out
        have hs5 := hb5.size
        have hbs := hbr.size
        have hl2 := hp2.lt
        have k2 := hp2.ke (KE.below HB5.out)
        obtain ⟨g', hp6, hg6, hC6⟩ := HR2.out
        exact ⟨⟨i + 1, g, g', rfl, hlt, trivial, hp6.up (by omega), trivial, (hbr.trans (hb5.mono hbs)).trans (sq_below k2 HSZ.out.2 (by omega) hC6)⟩, hm⟩
      · obtain ⟨hp1, hp2, hap, hbr⟩ := HI.out
        have hb5 := HB5.out
        have hs5 := hb5.size
        have hbs := hbr.size
        have hl2 := hp2.lt
        have k2 := hp2.ke (KE.below HB5.out)
        exact ⟨⟨i + 1, g, h, rfl, hlt, trivial, (k2.up (by omega)), hap, hbr.trans (hb5.mono hbs)⟩, hm⟩
    · have dl : decide ((i : Int) < (N : Int)) = false := by simp; omega
      have HF : Hid (Below W.heap.size W wr) := HI.out.2.2.2
      go_wp2_with fail
      go_ret
      exact ⟨rfl, HF.out⟩
set_option maxRecDepth 100000 in
set_option maxHeartbeats 16000000 in
theorem plays_bb (r1 r2 : Int) (p : Option Addr) (N c : Nat) (O : Nat → OpV) (W : World) (a1 : r1 < 1 ∨ 8192 < r1) (b1 : r2 < 1 ∨ 8192 < r2) (hk : OpsIn W p N O) (hN : N ≤ 3000000000000) :
    Calls Try.prog 4 #[.int .i64 r1, .int .i64 r2, .slice p N c] W fun e W' => e = .returned (.bool true) ∧ Below W.heap.size W W' := by
  have HN1 := q_newBad r1 a1 W
  have HN2 := fun w => q_newBad r2 b1 w
  have HN3 := fun (w : World) (_ : Nat → Ev) => rnew_bad r1 w a1
  have HN4 := fun (w : World) (_ : Nat → Ev) => rnew_bad r2 w b1
  have HK : Hid (OpsIn W p N O ∧ N ≤ 3000000000000 ∧ True ∧ True) := ⟨hk, hN, trivial, trivial⟩
  clear hk hN a1 b1 
  go_enter Try.func4, Try.ntmps4
  go_upto_region 2 with (go_at_call 6; (with_reducible refine HN1.mono ?_); rintro e w1 ⟨rfl, h9⟩; have h9 := h9.symm; subst h9; have HQ1 : Hid (Below W.heap.size W W) := Below.refl _ _)
  go_upto_region 3 with (go_at_call 6; (with_reducible refine (HN2 W).mono ?_); rintro e w2 ⟨rfl, h9⟩; have h9 := h9.symm; subst h9; have HQ2 : Hid (Below W.heap.size W W) := Below.refl _ _)
  go_upto_region 4 with (go_at_call 15; (with_reducible refine (HN3 W (fun _ => ev0)).mono ?_); rintro e w3 ⟨rfl, hb3⟩; have HQ3 : Hid (Below W.heap.size W w3) := hb3; clear hb3)
  go_upto_region 7 with (go_at_call 15; (with_reducible refine (HN4 w3 (fun _ => ev0)).mono ?_); rintro e w4 ⟨rfl, hb4⟩; have HQ4 : Hid (Below w3.heap.size w3 w4) := hb4; clear hb4)
  have hB1 : Below W.heap.size W W := HQ1.out
  have hB2 : Below W.heap.size W W := HQ2.out
  have hB3 : Below W.heap.size W w3 := HQ3.out
  have hB4 : Below w3.heap.size w3 w4 := HQ4.out
  have hs1 := hB1.size
  have hs2 := hB2.size
  have hs3 := hB3.size
  have hs4 := hB4.size
  have hp1 : True := trivial
  have hp2 : True := trivial
  have HQ : Hid ((True) ∧ (True) ∧ (True) ∧ Below W.heap.size W w4 ∧ W.heap.size ≤ W.heap.size ∧ W.heap.size ≤ w3.heap.size) := ⟨hp1, hp2, trivial, hB1.trans ((hB2.mono hs1).trans ((hB3.mono (by omega)).trans (hB4.mono (by omega)))), by omega, by omega⟩
  clear hp1 hp2 hB1 hB2 hB3 hB4 hs1 hs2 hs3 hs4 HN1 HN2 HN3 HN4 HQ1 HQ2 HQ3 HQ4
  go_wp2_with fail
  go_loopw [15] (fun x wr => ∃ (i g h : Nat), x = .int .i64 (i : Int) ∧ i ≤ N ∧ (True) ∧ (True) ∧ (True) ∧ Below W.heap.size W wr) (fun x _ => N - (intOf x).toNat)
  case atStart => exact ⟨0, 0, 0, rfl, Nat.zero_le _, HQ.out.1, HQ.out.2.1, HQ.out.2.2.1, HQ.out.2.2.2.1⟩
  case round =>
    obtain ⟨i, g, h, rfl, hiN, hp1, hp2, hap, hbr⟩ := hrel
    have HSZ : Hid (W.heap.size ≤ W.heap.size ∧ W.heap.size ≤ w3.heap.size) := HQ.out.2.2.2.2
    have HI : Hid ((True) ∧ (True) ∧ (True) ∧ Below W.heap.size W wr) := ⟨hp1, hp2, hap, hbr⟩
    clear HQ hp1 hp2 hap hbr
    by_cases hlt : i < N
    · have dl : decide ((i : Int) < (N : Int)) = true := by simp; omega
      have i0 : (0 : Int) ≤ (i : Int) := by omega
      have i1 : (i : Int) < (N : Int) := by omega
      obtain ⟨hk, hN, _, _⟩ := HK.out
      obtain ⟨b, o, hp, hbl, hcells⟩ : ∃ b o, p = some ⟨b, o, none⟩ ∧ b < W.heap.size ∧ ∀ i r, i < N → r < 7 → W.cell? ⟨b, o + i * 7 + r, none⟩ = some ((opA (O i)).toList.getD r undef) := by
        rcases hk with h9 | h9
        · omega
        · exact h9
      subst hp
      have hcw : ∀ r, r < 7 → wr.cell? ⟨b, o + i * 7 + r, none⟩ = some ((opA (O i)).toList.getD r undef) := fun r hr => (cell_below (a := ⟨b, o + i * 7 + r, none⟩) HI.out.2.2.2 hbl).trans (hcells i r hlt hr)
      have x0 : wr.cell? ⟨b, o + i * 7, none⟩ = some (.int .i64 (O i).kd) := hcw 0 (by decide)
      have x1 : wr.cell? ⟨b, o + i * 7 + 1, none⟩ = some (.int .i64 (O i).wh) := hcw 1 (by decide)
      have x2 : wr.cell? ⟨b, o + i * 7 + 2, none⟩ = some (.int .u64 (O i).t) := hcw 2 (by decide)
      have x3 : wr.cell? ⟨b, o + i * 7 + 3, none⟩ = some (.int .i64 (O i).s) := hcw 3 (by decide)
      have x4 : wr.cell? ⟨b, o + i * 7 + 4, none⟩ = some (.int .u64 (O i).q) := hcw 4 (by decide)
      have x5 : wr.cell? ⟨b, o + i * 7 + 5, none⟩ = some (.int .i64 (O i).d) := hcw 5 (by decide)
      have x6 : wr.cell? ⟨b, o + i * 7 + 6, none⟩ = some (.int .i64 (O i).n) := hcw 6 (by decide)
      have ei : IntKind.i64.wrap ((i : Int) + 1) = (i : Int) + 1 := by rw [IntKind.wrap_i64]; omega
      have hm := meas0 hlt
      obtain ⟨w5, hw5⟩ : ∃ w5, wr.alloc (.cells #[.int .i64 (O i).kd, .int .i64 (O i).wh, .int .u64 (O i).t, .int .i64 (O i).s, .int .u64 (O i).q, .int .i64 (O i).d, .int .i64 (O i).n] 32) = w5 := ⟨_, rfl⟩
      have HW5 : Hid (wr.alloc (.cells #[.int .i64 (O i).kd, .int .i64 (O i).wh, .int .u64 (O i).t, .int .i64 (O i).s, .int .u64 (O i).q, .int .i64 (O i).d, .int .i64 (O i).n] 32) = w5) := hw5
      have hb5 : Below wr.heap.size wr w5 := by rw [← hw5]; exact (Below.refl _ _).alloc (Nat.le_refl _) _
      have ho5 : w5.heap[wr.heap.size]? = some (.cells #[.int .i64 (O i).kd, .int .i64 (O i).wh, .int .u64 (O i).t, .int .i64 (O i).s, .int .u64 (O i).q, .int .i64 (O i).d, .int .i64 (O i).n] 32 (0, 0)) := by rw [← hw5]; exact World.alloc_heap_new wr _
      have lo5 := lt_of_block ho5
      have HB5 : Hid (Below wr.heap.size wr w5) := hb5
      obtain ⟨y0, y1, y2, y3, y4, y5, y6⟩ := c7 ho5
      clear hw5 hcw hcells hk hbl hb5 ho5
      go_upto_region 11 with fail
      rw [HW5.out]
      clear x0 x1 x2 x3 x4 x5 x6
      clear hN
      go_wp2_with (fail)
      · obtain ⟨hp1, hp2, hap, hbr⟩ := HI.out
        have hb5 := HB5.out
        have hs5 := hb5.size
        have hbs := hbr.size
        exact ⟨⟨i + 1, g, h, rfl, hlt, trivial, trivial, hap, hbr.trans (hb5.mono hbs)⟩, hm⟩
      · obtain ⟨hp1, hp2, hap, hbr⟩ := HI.out
        have hb5 := HB5.out
        have hs5 := hb5.size
        have hbs := hbr.size
        exact ⟨⟨i + 1, g, h, rfl, hlt, trivial, trivial, hap, hbr.trans (hb5.mono hbs)⟩, hm⟩
    · have dl : decide ((i : Int) < (N : Int)) = false := by simp; omega
      have HF : Hid (Below W.heap.size W wr) := HI.out.2.2.2
      go_wp2_with fail
      go_ret
      exact ⟨rfl, HF.out⟩
theorem plays_law (r1 r2 : Int) (p : Option Addr) (N c : Nat) (O : Nat → OpV) (W : World) (hk : OpsIn W p N O) (hN : N ≤ 3000000000000) :
    Calls Try.prog 4 #[.int .i64 r1, .int .i64 r2, .slice p N c] W fun e W' => e = .returned (.bool true) ∧ Below W.heap.size W W' := by
  by_cases h1 : r1 < 1 ∨ 8192 < r1
  · by_cases h2 : r2 < 1 ∨ 8192 < r2
    · exact plays_bb r1 r2 p N c O W h1 h2 hk hN
    · exact plays_bg r1 r2 p N c O W h1 (by omega) (by omega) hk hN
  · by_cases h2 : r2 < 1 ∨ 8192 < r2
    · exact plays_gb r1 r2 p N c O W (by omega) (by omega) h2 hk hN
    · exact plays_gg r1 r2 p N c O W (by omega) (by omega) (by omega) (by omega) hk hN
end Go.Proofs.Ytlklolmhaiaaiaa
