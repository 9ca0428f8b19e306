import Derived.Test.YtopggemomcoalaaGreatJTW4
import Derived.Maps.AppendAt
namespace Go.Proofs.YtopggemomcoalaaGreat
open Go.ChangeShapes Go.WideShapes Go.ChangeAt Go.RowKit
set_option linter.unusedVariables false
set_option linter.unusedSimpArgs false

/-! ### drop -/
def keptP (P : Pg) (g : Nat → Bool) : Pg := { P with n := tox g P.n, op := fun k => P.op ((kpt g P.n).getD k 0), a := fun k => P.a ((kpt g P.n).getD k 0), b := fun k => P.b ((kpt g P.n).getD k 0) }
theorem app3 {W : World} {base m : Nat} {t : TypeId} {v : Value} {F G : Nat → Value} {x y z : Value} (h : W.ownsRow base t 3 v (m + 1) (cellsF F (m * 3) ++ [x, y, z])) (h0 : ∀ j, j < m * 3 → G j = F j) (hx : G (m * 3) = x) (hy : G (m * 3 + 1) = y) (hz : G (m * 3 + 2) = z) : Own W base t 3 v (m + 1) G := by
  have e : [x, y, z] = cellsF (fun j => G (m * 3 + j)) 3 := by
    show [x, y, z] = [G (m * 3 + 0), G (m * 3 + 1), G (m * 3 + 2)]
    rw [Nat.add_zero, hx, hy, hz]
  rw [e, cellsF_append, show m * 3 + 3 = (m + 1) * 3 by omega] at h
  refine Own.congr (F := fun j => if j < m * 3 then F j else G (m * 3 + (j - m * 3))) h fun j hj => ?_
  by_cases h1 : j < m * 3
  · rw [if_pos h1, h0 j h1]
  · rw [if_neg h1, show m * 3 + (j - m * 3) = j by omega]
variable {Sf : Nat → Prop} {Hf : Nat → Option Obj} {base tb : Nat} {P : Pg} {cp ep : Option Addr} {cc ec : Nat}
theorem newsI (w : World) (x y z : Value) (t : TypeId) : ∀ j u, ([x, y, z] : List Value)[j]? = some u → (w.alloc (.cells #[x, y, z] t)).cell? ((⟨w.heap.size, 0, none⟩ : Addr).add j) = some u := fun j u hu => by
  have hj : j < 3 := (List.getElem?_eq_some_iff.1 hu).1
  have hx := World.alloc_heap_new w (.cells #[x, y, z] t)
  rw [addr_add0, Nat.zero_add]
  unfold World.cell?
  rw [hx]
  rcases (by omega : j = 0 ∨ j = 1 ∨ j = 2) with rfl | rfl | rfl <;> exact hu
/-- the kept instructions' rows, as the loop goes -/
theorem kpt_getD (g : Nat → Bool) {n k j : Nat} (h : k ≤ n) (hj : j < tox g k) : (kpt g n).getD j 0 = (kpt g k).getD j 0 := by
  induction h with
  | refl => rfl
  | step h ih =>
    rename_i m
    rw [kpt_succ, List.getD_eq_getElem?_getD, List.getElem?_append_left (Nat.lt_of_lt_of_le hj (tox_mono g h)), ← List.getD_eq_getElem?_getD]
    exact ih
theorem kpt_last (g : Nat → Bool) {k : Nat} (hk : g k = false) : (kpt g (k + 1)).getD (tox g k) 0 = k := by
  rw [List.getD_eq_getElem?_getD, kpt_get g (k + 1) (Nat.lt_succ_self k) hk]
  rfl
def rowK (P : Pg) (g : Nat → Bool) (k : Nat) : Nat → Value := inC (fun j => P.op ((kpt g k).getD j 0)) (fun j => P.a ((kpt g k).getD j 0)) (fun j => P.b ((kpt g k).getD j 0))
theorem rowK_same {P : Pg} {g : Nat → Bool} {k j : Nat} (hj : j < tox g k * 3) : rowK P g (k + 1) j = rowK P g k j := by
  have e := kpt_getD g (Nat.le_succ k) (show j / 3 < tox g k by omega)
  have e : (kpt g (k + 1)).getD (j / 3) 0 = (kpt g k).getD (j / 3) 0 := e
  unfold rowK inC
  dsimp only
  rw [e]
theorem rowK_drop {P : Pg} {g : Nat → Bool} {k : Nat} (hk : g k = true) : rowK P g (k + 1) = rowK P g k := by
  unfold rowK
  rw [kpt_succ, if_pos hk, List.append_nil]
theorem upd_step {g : Nat → Bool} {n k : Nat} (hk : k < n) (j : Nat) : ((updN (fun x => if x < k then tox g x else 0) k (tox g k) j : Nat) : Int) = (((fun x => if x < k + 1 then tox g x else 0) j : Nat) : Int) := by
  unfold updN
  dsimp only
  by_cases h1 : j = k
  · subst h1
    rw [if_pos rfl, if_pos (Nat.lt_succ_self j)]
  · rw [if_neg h1]
    by_cases h2 : j < k
    · rw [if_pos h2, if_pos (by omega)]
    · rw [if_neg h2, if_neg (by omega)]
theorem setT {W : World} {b : Nat} {c0 c1 c2 c3 : Value} {t : TypeId} (h : W.heap[b]? = some (.cells #[c0, c1, c2, c3] t (0, 0))) (v : Value) : (W.setCell ⟨b, 2, none⟩ v).heap[b]? = some (.cells #[c0, c1, v, c3] t (0, 0)) := by
  obtain ⟨hlt, hk⟩ := Array.getElem?_eq_some_iff.1 h
  show (W.heap.modify b _)[b]? = _
  rw [Array.getElem?_eq_getElem (by rw [Array.size_modify]; exact hlt), Array.getElem_modify_self, hk]
  rfl
set_option maxRecDepth 100000 in
set_option maxHeartbeats 8000000 in
theorem dropU_any {L : Nat → Int} (v : Vf P L) (g : Nat → Bool) (kb : Nat) (W : World) (h : TD Sf Hf W base tb P cp ep cc ec) (hB : base ≤ W.heap.size) (hC : ∀ w, Below W.heap.size W w → ∀ x : Nat, x < P.n → Calls Tryz.prog 84 #[.int .i64 (x : Int), .pointer (some ⟨kb, 0, none⟩)] w fun e w' => e = .returned (.bool (g x)) ∧ Below w.heap.size w w') :
    Calls Tryz.prog 83 #[.pointer (some ⟨tb, 0, none⟩), .func (.func 84) #[] #[.pointer (some ⟨kb, 0, none⟩)]] W fun e W' => e = .returned (.tuple #[]) ∧ (∃ lp lc, TD Sf Hf W' base tb (dropP P g) lp ep lc ec) ∧ Below base W W' := by
  obtain ⟨i3, hi3, ha3, hb3, hc3⟩ := info_parts infoIns
  obtain ⟨i5, hi5, hz0, hz1, hz2⟩ := info_parts infoInt1
  have hn := v.sz.2.2.1
  have HV := tmh (And.intro v (And.intro h (And.intro hB hC)))
  obtain ⟨y0, y1, y2, y3⟩ := h.cells
  clear v h hB hC
  go_enter Tryz.func83, Tryz.ntmps83
  go_upto_region 1 with (at_make; refine wpList_make_own _ rfl (.const (.int .i64 0)) (.tmp 13) 22 rfl W.heap.size 36 i3 _ 3 Tryz.underlying22 hi3 ha3 hb3 .i64 .i64 P.n P.n rfl rfl rfl ?c1 ?c2 ?c3 ?_)
  case c1 => rw [hc3]; omega
  case c2 => unfold maxLen; omega
  case c3 => exact Nat.le_refl _
  intro w1 hown1 hgrow1
  have hb1 : Below W.heap.size W w1 := (Below.refl _ _).grown hgrow1 (Nat.le_refl _) (by simp)
  have hL1 : Own w1 W.heap.size 36 3 (.slice (some ⟨W.heap.size, 0, none⟩) 0 P.n) (tox g 0) (rowK P g 0) := hown1
  have H1 := tmh (And.intro hL1 (And.intro hb1 (HV.out.2.1.later hb1)))
  clear hown1 hgrow1 hL1 hb1 y0 y1 y2 y3
  obtain ⟨B, hB⟩ : ∃ B, B = W.heap.size := ⟨_, rfl⟩
  rw [← hB] at H1 ⊢
  obtain ⟨y0, y1, y2, y3⟩ := H1.out.2.2.cells
  go_upto_region 2 with (at_make; refine wpList_make_full _ rfl (.tmp 20) (.tmp 20) 23 rfl w1.heap.size 3 i5 _ 1 Tryz.underlying23 hi5 hz0 hz1 .i64 .i64 P.n P.n P.n rfl rfl rfl rfl ?c1 ?c2 ?c3 ?_)
  case c1 => rw [hz2]; omega
  case c2 => unfold maxLen; omega
  case c3 => exact Nat.le_refl _
  intro w2 hown2 hgrow2
  have hb2 : Below w1.heap.size w1 w2 := (Below.refl _ _).grown hgrow2 (Nat.le_refl _) (by simp)
  have hO2 : Own w2 w1.heap.size 3 1 (.slice (some ⟨w1.heap.size, 0, none⟩) P.n P.n) P.n (iv fun x => (((fun x => if x < 0 then tox g x else 0) x : Nat) : Int)) := (own_of hown2).congr fun j hj => by
    have h6 : (Value.int .i64 0).cells.size = 1 := rfl
    unfold madeCells iv
    have hj2 : j < P.n := by omega
    simp [hj2, h6]
    rw [Nat.mod_one]
    rfl
  obtain ⟨C, hC⟩ : ∃ C, C = w1.heap.size := ⟨_, rfl⟩
  rw [← hC] at hO2 ⊢
  have hBC : B < C := by rw [hC]; exact (H1.out.1.lt B rfl).2
  have H2 := tmh (And.intro (H1.out.1.later hb2) (And.intro hO2 (And.intro (H1.out.2.2.later hb2) (And.intro (H1.out.2.1.trans (hb2.mono (by rw [← hC]; omega))) (And.intro hBC (And.intro hb2 hC))))))
  have HB := tmh hB
  clear hown2 hgrow2 hO2 hb2 y0 y1 y2 y3 H1 hC hBC hB
  obtain ⟨y0, y1, y2, y3⟩ := H2.out.2.2.1.cells
  go_wp2_with fail
  clear y0 y1 y2 y3 hi5 hz0 hz1 hz2
  go_loopw [4, 28] (fun y x wr => ∃ (k gl cl : Nat), y = .slice (some ⟨gl, 0, none⟩) (tox g k) cl ∧ x = .int .i64 (k : Int) ∧ k ≤ P.n ∧ gl ≠ C ∧ Own wr B 36 3 (.slice (some ⟨gl, 0, none⟩) (tox g k) cl) (tox g k) (rowK P g k) ∧ Own wr C 3 1 (.slice (some ⟨C, 0, none⟩) P.n P.n) P.n (iv fun x => (((fun x => if x < k then tox g x else 0) x : Nat) : Int)) ∧ TD Sf Hf wr base tb P cp ep cc ec ∧ Below B W wr) (fun _ x _ => P.n - (intOf x).toNat)
  case atStart => exact ⟨0, B, P.n, by rw [HB.out]; rfl, rfl, Nat.zero_le _, Nat.ne_of_lt H2.out.2.2.2.2.1, H2.out.1, H2.out.2.1, H2.out.2.2.1, H2.out.2.2.2.1⟩
  case round =>
    obtain ⟨k, gl, cl, rfl, rfl, hk, hgc, hO, hT, hTD, hbr⟩ := hrel
    have HR := tmh (And.intro hgc (And.intro hO (And.intro hT (And.intro hTD hbr))))
    clear hgc hO hT hTD hbr
    by_cases hlt : k < P.n
    · have d1 : decide ((k : Int) < (P.n : Int)) = true := by simp; omega
      have d2 : decide (k < P.n) = true := by simp; omega
      have i0 : (0 : Int) ≤ (k : Int) := by omega
      have i1 : (k : Int) < (P.n : Int) := by omega
      have ek : IntKind.i64.wrap ((k : Int) + 1) = ((k + 1 : Nat) : Int) := by rw [IntKind.wrap_i64]; omega
      have hm := meas0 hlt
      obtain ⟨gc, hg⟩ := HR.out.2.2.2.1.ip (by omega)
      subst hg
      obtain ⟨⟨x0, x1, x2⟩, hfz⟩ := HR.out.2.2.2.1.ins hlt
      clear hfz
      obtain ⟨w5, hw5⟩ : ∃ w5, wr.alloc (.cells #[.int .i64 (P.op k), .int .i64 (P.a k), .int .i64 (P.b k)] 36) = w5 := ⟨_, rfl⟩
      have HW5 := tmh hw5
      have hb5 : Below wr.heap.size wr w5 := by rw [← hw5]; exact (Below.refl _ wr).alloc (Nat.le_refl _) _
      have hx5 : w5.heap[wr.heap.size]? = some (.cells #[.int .i64 (P.op k), .int .i64 (P.a k), .int .i64 (P.b k)] 36 (0, 0)) := by rw [← hw5]; exact World.alloc_heap_new wr _
      have hCr : C < wr.heap.size := (HR.out.2.2.1.lt C rfl).2
      have hBC : B < C := H2.out.2.2.2.2.1
      have hO5 := HR.out.2.2.1.later hb5
      obtain ⟨q0, f0, _⟩ := own_intc hO5 hlt
      have H5 := tmh (And.intro (HR.out.2.1.later hb5) (And.intro hO5 (And.intro (HR.out.2.2.2.1.later hb5) (And.intro (HR.out.2.2.2.2.trans (hb5.mono (by omega))) (And.intro hx5 (And.intro hb5 hCr))))))
      clear hw5 hb5 hx5 hO5 hk
      go_upto_region 5 with fail
      rw [HW5.out]
      clear x0 x1 x2 HW5
      have hs6 := own_updN H5.out.2.1 k (tox g k)
      have hb6 : Below C w5 (w5.setCell ⟨C, k, none⟩ (.int .i64 ((tox g k : Nat) : Int))) := (Below.refl _ w5).setCell (p := ⟨C, k, none⟩) (Nat.le_refl _) _
      obtain ⟨w6, hw6⟩ : ∃ w6, w5.setCell ⟨C, k, none⟩ (.int .i64 ((tox g k : Nat) : Int)) = w6 := ⟨_, rfl⟩
      have HW6 := tmh hw6
      have hk6 : ∀ j, j ≠ C → w6.heap[j]? = w5.heap[j]? := fun j hj => by rw [← hw6]; exact Below.heap_setCell _ _ _ _ hj
      rw [hw6] at hs6 hb6
      have hb6W : Below B W w6 := H5.out.2.2.2.1.trans (hb6.mono (Nat.le_of_lt hBC))
      have hO6 : Own w6 B 36 3 (.slice (some ⟨gl, 0, none⟩) (tox g k) cl) (tox g k) (rowK P g k) := H5.out.1.far fun j hj => hk6 j fun e => by
        simp [Value.ownBlock] at hj
        exact HR.out.1 (hj.trans e)
      have hT6 : TD Sf Hf w6 base tb P (some ⟨gc, 0, none⟩) ep cc ec := HV.out.2.1.later (by rw [← HB.out]; exact hb6W)
      have HCA := HV.out.2.2.2 w6 (by rw [← HB.out]; exact hb6W) k hlt
      have hx6 : w6.heap[wr.heap.size]? = some (.cells #[.int .i64 (P.op k), .int .i64 (P.a k), .int .i64 (P.b k)] 36 (0, 0)) := (hk6 _ (by omega)).trans H5.out.2.2.2.2.1
      have H6 := tmh (And.intro hO6 (And.intro hs6 (And.intro hT6 (And.intro hb6W hx6))))
      have hl6 : wr.heap.size < w6.heap.size := ltB hx6
      clear hs6 hb6 hk6 hO6 hT6 hb6W hx6 hw6
      go_upto_region 6 with fail
      rw [HW6.out]
      clear HW6 f0 q0
      rcases (by cases g k <;> simp : g k = true ∨ g k = false) with hgk | hgk
      · rw [hgk] at HCA
        go_upto_region 8 with (go_at_call 84; (with_reducible refine HCA.mono ?_); rintro e w7 ⟨rfl, hb7⟩; have HC7 := tmh hb7; clear hb7)
        have HG := tmh hgk
        clear hgk
        go_wp2_with fail
        refine ⟨⟨k + 1, gl, cl, by rw [tox_succ, HG.out]; rfl, rfl, hlt, HR.out.1, ?_, ?_, H6.out.2.2.1.later HC7.out, H6.out.2.2.2.1.trans (HC7.out.mono (by omega))⟩, hm⟩
        · have := H6.out.1.later HC7.out
          rw [rowK_drop HG.out, show tox g (k + 1) = tox g k by rw [tox_succ, HG.out]; rfl]
          exact this
        · exact (H6.out.2.1.later HC7.out).eqv fun j hj => upd_step hlt j
      · rw [hgk] at HCA
        go_upto_region 7 with (go_at_call 84; (with_reducible refine HCA.mono ?_); rintro e w7 ⟨rfl, hb7⟩; have HC7 := tmh hb7; clear hb7)
        have HG := tmh hgk
        clear hgk
        have hx7 : w7.heap[wr.heap.size]? = some (.cells #[.int .i64 (P.op k), .int .i64 (P.a k), .int .i64 (P.b k)] 36 (0, 0)) := (HC7.out.block _ hl6).trans H6.out.2.2.2.2
        have c0 : w7.cell? ⟨wr.heap.size, 0, none⟩ = some (.int .i64 (P.op k)) := by unfold World.cell?; rw [hx7]; rfl
        have c1 : w7.cell? ⟨wr.heap.size, 1, none⟩ = some (.int .i64 (P.a k)) := by unfold World.cell?; rw [hx7]; rfl
        have c2 : w7.cell? ⟨wr.heap.size, 2, none⟩ = some (.int .i64 (P.b k)) := by unfold World.cell?; rw [hx7]; rfl
        obtain ⟨w8, hw8⟩ : ∃ w8, w7.alloc (.cells #[.int .i64 (P.op k), .int .i64 (P.a k), .int .i64 (P.b k)] 36) = w8 := ⟨_, rfl⟩
        have HW8 := tmh hw8
        have hb8 : Below w7.heap.size w7 w8 := by rw [← hw8]; exact (Below.refl _ w7).alloc (Nat.le_refl _) _
        have hn8 : ∀ j u, ([.int .i64 (P.op k), .int .i64 (P.a k), .int .i64 (P.b k)] : List Value)[j]? = some u → w8.cell? ((⟨w7.heap.size, 0, none⟩ : Addr).add j) = some u := by rw [← hw8]; exact newsI w7 _ _ _ _
        have hs7 : w6.heap.size ≤ w7.heap.size := HC7.out.size
        have hb68 : Below w6.heap.size w6 w8 := HC7.out.trans (hb8.mono hs7)
        have hO8 : w8.ownsRow B 36 3 (.slice (some ⟨gl, 0, none⟩) (tox g k) cl) (tox g k) (cellsF (rowK P g k) (tox g k * 3)) := H6.out.1.later hb68
        have hlk : tox g k ≤ k := tox_le g k
        have p1 : tox g k + 1 ≤ maxLen := by unfold maxLen; omega
        have p2 : (tox g k + 1) * 24 ≤ 140737488355328 := by omega
        have hB8 : B ≤ w8.heap.size := by have := hb8.size; omega
        have H8 := tmh (And.intro hO8 (And.intro hn8 (And.intro hB8 (And.intro hb8 (And.intro hs7 hb68)))))
        clear hw8 hx7 hb8 hn8 hs7 hb68 hO8 hlk hB8
        go_wp2_with (at_builtin; rw [HW8.out]; refine wpList_append_own_at _ rfl _ _ 22 rfl B 36 i3 _ 3 24 Tryz.underlying22 hi3 ha3 hb3 hc3 rfl (by decide) _ _ _ rfl H8.out.1 ⟨w7.heap.size, 0, none⟩ 1 1 [.int .i64 (P.op k), .int .i64 (P.a k), .int .i64 (P.b k)] rfl rfl H8.out.2.1 (by simp [Value.oneCell']) p1 p2 H8.out.2.2.1 ?_; intro v' w9 hown9 hgrow9 _ hnb9; have hgrow9 : w8.grownBy w9 (some gl) := hgrow9; obtain ⟨g5, c5, rfl⟩ := ownsRow_succ hown9; have H9 := tmh (And.intro hown9 (And.intro hgrow9 hnb9)); clear hown9 hgrow9 hnb9)
        have hs8 := H8.out.2.2.2.1.size
        have hs9 := H8.out.2.2.2.2.1
        have hbl : B ≤ gl := (HR.out.2.1.lt gl rfl).1
        have hb9 : Below B W w9 := ((H6.out.2.2.2.1.trans (H8.out.2.2.2.2.2.mono (by omega))).grown H9.out.2.1 H8.out.2.2.1 (fun j hj => by injection hj with hj; omega))
        have hg5 : g5 = gl ∨ g5 = w8.heap.size := by
          rcases H9.out.2.2 with e | e
          · exact .inl (by injection e)
          · exact .inr (by injection e)
        have ht1 : tox g (k + 1) = tox g k + 1 := by rw [tox_succ, HG.out]; rfl
        refine ⟨⟨k + 1, g5, c5, by rw [ht1], rfl, hlt, ?_, ?_, ?_, HV.out.2.1.later (by rw [← HB.out]; exact hb9), hb9⟩, hm⟩
        · rcases hg5 with e | e
          · rw [e]; exact HR.out.1
          · omega
        · rw [ht1]
          refine app3 H9.out.1 (fun j hj => rowK_same hj) ?_ ?_ ?_
          · unfold rowK
            rw [inC0, kpt_last g HG.out]
          · unfold rowK
            rw [inC1, kpt_last g HG.out]
          · unfold rowK
            rw [inC2, kpt_last g HG.out]
        · have h7 := H6.out.2.1.later H8.out.2.2.2.2.2
          have h9 := h7.far (W' := w9) fun j hj => H9.out.2.1.block j (by have := (h7.lt j hj).2; omega) (fun e => by injection e with e; simp [Value.ownBlock] at hj; exact HR.out.1 (e.symm.trans hj.symm))
          exact h9.eqv fun j hj => upd_step hlt j
    · have d1 : decide ((k : Int) < (P.n : Int)) = false := by simp; omega
      have d2 : decide (k < P.n) = false := by simp; omega
      obtain rfl : k = P.n := by omega
      have hxr := HR.out.2.2.2.1.bx
      obtain ⟨y0, y1, y2, y3⟩ := HR.out.2.2.2.1.cells
      have f2 := frz hxr 2
      obtain ⟨w5, hw5⟩ : ∃ w5, wr.setCell ⟨tb, 2, none⟩ (.slice (some ⟨gl, 0, none⟩) (tox g P.n) cl) = w5 := ⟨_, rfl⟩
      have HW5 := tmh hw5
      have hB1 := HB.out
      have hltb : tb < W.heap.size := ltB HV.out.2.1.bx
      have hC1 : C < wr.heap.size := (HR.out.2.2.1.lt C rfl).2
      have hBC : B < C := H2.out.2.2.2.2.1
      have hbl : B ≤ gl ∧ gl < wr.heap.size := HR.out.2.1.lt gl rfl
      have hbase := HV.out.2.2.1
      have hk5 : ∀ j, j ≠ tb → w5.heap[j]? = wr.heap[j]? := fun j hj => by rw [← hw5]; exact Below.heap_setCell _ _ _ _ hj
      have hb5 : Below base W w5 := by rw [← hw5]; exact (HR.out.2.2.2.2.mono (by omega)).setCell (p := ⟨tb, 2, none⟩) HV.out.2.1.lo _
      have hx5 : w5.heap[tb]? = some (.cells #[.int .i64 P.words, .int .i64 P.locals, .slice (some ⟨gl, 0, none⟩) (tox g P.n) cl, .slice ep P.m ec] 67 (0, 0)) := by rw [← hw5]; exact setT hxr _
      have hO5 : Own w5 B 36 3 (.slice (some ⟨gl, 0, none⟩) (tox g P.n) cl) (tox g P.n) (rowK P g P.n) := HR.out.2.1.far fun j hj => hk5 j (by have := (HR.out.2.1.lt j hj).1; omega)
      have hT5 : Own w5 C 3 1 (.slice (some ⟨C, 0, none⟩) P.n P.n) P.n (iv fun x => ((tox g x : Nat) : Int)) := (HR.out.2.2.1.far fun j hj => hk5 j (by have := (HR.out.2.2.1.lt j hj).1; omega)).eqv fun j hj => by dsimp only; rw [if_pos (by omega)]
      have hE5 : Own w5 base 3 1 (.slice ep P.m ec) P.m (iv P.en) := HR.out.2.2.2.1.en.far fun j hj => hk5 j (ownA HR.out.2.2.2.1.en hxr (by decide) j hj)
      have hTD5 : TD Sf Hf w5 base tb (keptP P g) (some ⟨gl, 0, none⟩) ep cl ec := ⟨hx5, hO5.low (by omega), hE5, HV.out.2.1.lo, fr_keep HR.out.2.2.2.1.fr fun j hj => hk5 j fun e => HV.out.2.1.ft (e ▸ hj), HV.out.2.1.ft, fun g o e hs => by
        injection e with e
        injection e with e _
        have := (HV.out.2.1.fr g hs).1
        omega, HV.out.2.1.fe⟩
      have HL := lead_any (t := tox g) w5 hTD5 hT5 (fun j h1 h2 => by
          have h3 := (HV.out.2.1.en.lt j h1).2
          have h4 := (HR.out.2.2.1.lt j h2).1
          omega) (fun i hi hj => by
          obtain ⟨x, h1, h2, h3, h4⟩ := kpt_at g P.n (k := i) hi
          have hj : jmp (P.op ((kpt g P.n).getD i 0)) = true := hj
          show 0 ≤ P.a ((kpt g P.n).getD i 0) ∧ P.a ((kpt g P.n).getD i 0) < P.n
          rw [h4] at hj ⊢
          exact HV.out.1.gd.a x h1 hj) (fun j hj => by have h9 := HV.out.1.en j hj; show P.en j = -1 ∨ (0 ≤ P.en j ∧ P.en j < P.n); omega) ⟨Nat.le_trans (tox_le g P.n) hn, HV.out.1.sz.2.2.2⟩ (Nat.le_trans hbase hb5.size)
      have H5 := tmh hb5
      clear hw5 hk5 hb5 hx5 hO5 hT5 hE5 hTD5 hxr hB1 hltb hC1 hBC hbl hbase
      go_wp2_with (rw [HW5.out]; clear y0 y1 y2 y3 f2; go_at_call 81; (with_reducible refine HL.mono ?_); rintro e w6 ⟨rfl, hT6, hb6⟩)
      go_end0
      exact ⟨rfl, ⟨_, _, hT6⟩, H5.out.trans hb6⟩
end Go.Proofs.YtopggemomcoalaaGreat
