import Derived.Test.YtopggemomcoalaaGreatJTW5
import Derived.Deep.RegionHeld3
namespace Go.Proofs.YtopggemomcoalaaGreat
open Go.ChangeShapes Go.WideShapes Go.ChangeAt Go.RowKit
set_option linter.unusedVariables false
set_option linter.unusedSimpArgs false

/-! ### dropUnreached -/
variable {Sf : Nat → Prop} {Hf : Nat → Option Obj} {base tb : Nat} {P : Pg} {cp ep : Option Addr} {cc ec : Nat}
set_option maxRecDepth 100000 in
set_option maxHeartbeats 8000000 in
theorem unr1_any {L : Nat → Int} {kb db n dc b : Nat} (W w : World) (hb : Below W.heap.size W w) (hx : W.heap[kb]? = some (.cells #[.slice (some ⟨db, 0, none⟩) n dc] 23 (0, 0))) (hO : Own W b 3 1 (.slice (some ⟨db, 0, none⟩) n dc) n (iv L)) (x : Nat) (hn : x < n) :
    Calls Tryz.prog 84 #[.int .i64 (x : Int), .pointer (some ⟨kb, 0, none⟩)] w fun e w' => e = .returned (.bool (decide (L x = -1))) ∧ Below w.heap.size w w' := by
  have hx2 : w.heap[kb]? = _ := (hb.block _ (ltB hx)).trans hx
  have x0 : w.cell? ⟨kb, 0, none⟩ = some (.slice (some ⟨db, 0, none⟩) n dc) := by unfold World.cell?; rw [hx2]; rfl
  have c0 : w.cell? ⟨db, x, none⟩ = some (.int .i64 (L x)) := (hO.later hb).cell (by omega)
  have i0 : (0 : Int) ≤ (x : Int) := by omega
  have i1 : (x : Int) < (n : Int) := by omega
  have e : (L x == -1) = decide (L x = -1) := rfl
  go_enter Tryz.func84, Tryz.ntmps84
  go_wp2_with fail
  go_ret
  exact ⟨rfl, Below.refl _ _⟩
theorem set1 {W : World} {b : Nat} {c0 : Value} {t : TypeId} (h : W.heap[b]? = some (.cells #[c0] t (0, 0))) (v : Value) : (W.setCell ⟨b, 0, none⟩ v).heap[b]? = some (.cells #[v] t (0, 0)) := by
  obtain ⟨hlt, hk⟩ := Array.getElem?_eq_some_iff.1 h
  show (W.heap.modify b _)[b]? = _
  rw [Array.getElem?_eq_getElem (by rw [Array.size_modify]; exact hlt), Array.getElem_modify_self, hk]
  rfl
theorem boxA {W w1 : World} {t t' : TypeId} {x v : Value} {s m : Nat} {F : Nat → Value} (hb : Below W.heap.size W w1) (hO : Own w1 W.heap.size t' s v m F) : Below W.heap.size W (w1.alloc (.cells #[x] t)) ∧ (w1.alloc (.cells #[x] t)).heap[w1.heap.size]? = some (.cells #[x] t (0, 0)) ∧ Own (w1.alloc (.cells #[x] t)) W.heap.size t' s v m F := by
  have h1 : Below w1.heap.size w1 (w1.alloc (.cells #[x] t)) := (Below.refl _ w1).alloc (Nat.le_refl _) _
  exact ⟨hb.trans (h1.mono hb.size), World.alloc_heap_new w1 _, hO.later h1⟩
theorem boxB {W w1 : World} {t t' : TypeId} {z x v : Value} {s m : Nat} {F : Nat → Value} (hb : Below W.heap.size W w1) (hx : w1.heap[W.heap.size]? = some (.cells #[z] t (0, 0))) (ht : t' ≠ t) (hO : Own w1 W.heap.size t' s v m F) : Below W.heap.size W (w1.setCell ⟨W.heap.size, 0, none⟩ x) ∧ (w1.setCell ⟨W.heap.size, 0, none⟩ x).heap[W.heap.size]? = some (.cells #[x] t (0, 0)) ∧ Own (w1.setCell ⟨W.heap.size, 0, none⟩ x) W.heap.size t' s v m F :=
  ⟨hb.setCell (p := ⟨W.heap.size, 0, none⟩) (Nat.le_refl _) x, set1 hx x, hO.far fun k hk => Below.heap_setCell _ _ _ _ (ownA hO hx ht k hk)⟩
set_option maxRecDepth 100000 in
set_option maxHeartbeats 8000000 in
theorem dropUnr_any {L : Nat → Int} (v : Vf P L) (W : World) (h : TD Sf Hf W base tb P cp ep cc ec) (hB : base ≤ W.heap.size) :
    Calls Tryz.prog 41 #[.pointer (some ⟨tb, 0, none⟩)] W fun e W' => e = .returned (.tuple #[]) ∧ (∃ lp lc, TD Sf Hf W' base tb (dropP P (goU P)) lp ep lc ec) ∧ Below base W W' := by
  have HV := tmh (And.intro v (And.intro h hB))
  have HD : Hid (∀ w, Below W.heap.size W w → Calls Tryz.prog 10 #[.agg #[.int .i64 P.words, .int .i64 P.locals, .slice cp P.n cc, .slice ep P.m ec], .int .i64 (P.m : Int)] w fun e w' => ∃ db, e = .returned (.tuple #[.slice (some ⟨db, 0, none⟩) P.n P.n, .int .i64 0]) ∧ Below W.heap.size W w' ∧ Own w' W.heap.size 3 1 (.slice (some ⟨db, 0, none⟩) P.n P.n) P.n (iv (dL P)) ∧ Below w.heap.size w w') := tmh fun w hw => (depths_any P ⟨cp, cc, ep, ec⟩ P.m w (h.later hw).iat (h.later hw).kat).mono fun e w' => by
    rintro ⟨r, c, rfl, hb, h1, h2, h3⟩
    rw [v.code] at h1
    obtain ⟨db, rfl, hO⟩ := h3 h1
    subst h1
    exact ⟨db, rfl, hw.trans (hb.mono hw.size), hO.low hw.size, hb⟩
  obtain ⟨y0, y1, y2, y3⟩ := h.cells
  have hlt := ltB h.bx
  have n1 : tb ≠ W.heap.size := by omega
  have n2 : W.heap.size ≠ tb := by omega
  have HF : Hid (∀ (w : World) (kb db : Nat), Below W.heap.size W w ∧ w.heap[kb]? = some (.cells #[.slice (some ⟨db, 0, none⟩) P.n P.n] 23 (0, 0)) ∧ Own w W.heap.size 3 1 (.slice (some ⟨db, 0, none⟩) P.n P.n) P.n (iv (dL P)) → Calls Tryz.prog 83 #[.pointer (some ⟨tb, 0, none⟩), .func (.func 84) #[] #[.pointer (some ⟨kb, 0, none⟩)]] w fun e W' => e = .returned (.tuple #[]) ∧ (∃ lp lc, TD Sf Hf W' base tb (dropP P (goU P)) lp ep lc ec) ∧ Below base W W') := tmh fun w kb db hw => (dropU_any v (goU P) kb w (h.later hw.1) (Nat.le_trans hB hw.1.size) fun w' hw' x hx => unr1_any w w' hw' hw.2.1 hw.2.2 x hx).mono fun e w2 => by
    rintro ⟨rfl, h1, h2⟩
    exact ⟨rfl, h1, (hw.1.mono hB).trans h2⟩
  clear v h hB
  go_enter Tryz.func41, Tryz.ntmps41
  go_wp2_with fail
  go_region_with (go_at_call 10; (with_reducible refine (HD.out _ ?_).mono ?_); (first | with_reducible exact Below.refl _ _ | with_reducible exact (Below.refl _ _).alloc (Nat.le_refl _) _ | with_reducible exact (Below.refl _ _).drew | with_reducible exact ((Below.refl _ _).alloc (Nat.le_refl _) _).drew | with_reducible exact (Below.refl _ _).drew.alloc (Nat.le_refl _) _ | trace_state); rintro e w1 ⟨db, rfl, hbW, hO, hb⟩; (try (have hbx : w1.heap[W.heap.size]? = some (.cells #[.slice none 0 0] 23 (0, 0)) := (hb.block _ (ltB (World.alloc_heap_new W _))).trans (World.alloc_heap_new W _); have bx0 : w1.cell? ⟨W.heap.size, 0, none⟩ = some (.slice none 0 0) := (by unfold World.cell?; rw [hbx]; rfl); have bf0 := frz hbx 0)))
  all_goals (first | have HQ := tmh (boxB (x := .slice (some ⟨db, 0, none⟩) P.n P.n) hbW hbx (by decide) hO) | have HQ := tmh (boxA (t := 23) (x := .slice (some ⟨db, 0, none⟩) P.n P.n) hbW hO))
  all_goals (clear hb hbW hO n1 n2 hlt y0 y1 y2 y3)
  all_goals (try clear hbx bx0 bf0)
  all_goals (go_wp2_with (go_at_call 83; (with_reducible refine (HF.out _ _ _ HQ.out).mono ?_); rintro e w2 ⟨rfl, h1, h2⟩))
  all_goals (first | exact ⟨rfl, h1, h2⟩ | (go_end0; exact ⟨rfl, h1, h2⟩))
end Go.Proofs.YtopggemomcoalaaGreat
namespace Go.Proofs.YtopggemomcoalaaGreat
open Go.ChangeShapes Go.WideShapes Go.ChangeAt Go.RowKit
set_option linter.unusedVariables false
set_option linter.unusedSimpArgs false

/-! ### dropSteps -/
variable {Sf : Nat → Prop} {Hf : Nat → Option Obj} {base tb : Nat} {P : Pg} {cp ep : Option Addr} {cc ec : Nat}
set_option maxRecDepth 100000 in
set_option maxHeartbeats 8000000 in
theorem dropS_any {L : Nat → Int} (v : Vf P L) (g : Nat → Bool) (kb : Nat) (W : World) (h : TD Sf Hf W base tb P cp ep cc ec) (hB : base ≤ W.heap.size) (hC : ∀ w, Below W.heap.size W w → ∀ x : Nat, x < P.n → Calls Tryz.prog 85 #[.int .i64 (x : Int), .pointer (some ⟨kb, 0, none⟩)] w fun e w' => e = .returned (.bool (g x)) ∧ Below w.heap.size w w') :
    Calls Tryz.prog 83 #[.pointer (some ⟨tb, 0, none⟩), .func (.func 85) #[] #[.pointer (some ⟨kb, 0, none⟩)]] W fun e W' => e = .returned (.tuple #[]) ∧ (∃ lp lc, TD Sf Hf W' base tb (dropP P g) lp ep lc ec) ∧ Below base W W' := by
  obtain ⟨i3, hi3, ha3, hb3, hc3⟩ := info_parts infoIns
  obtain ⟨i5, hi5, hz0, hz1, hz2⟩ := info_parts infoInt1
  have hn := v.sz.2.2.1
  have HV := tmh (And.intro v (And.intro h (And.intro hB hC)))
  obtain ⟨y0, y1, y2, y3⟩ := h.cells
  clear v h hB hC
  go_enter Tryz.func83, Tryz.ntmps83
  go_upto_region 1 with (at_make; refine wpList_make_own _ rfl (.const (.int .i64 0)) (.tmp 13) 22 rfl W.heap.size 36 i3 _ 3 Tryz.underlying22 hi3 ha3 hb3 .i64 .i64 P.n P.n rfl rfl rfl ?c1 ?c2 ?c3 ?_)
  case c1 => rw [hc3]; omega
  case c2 => unfold maxLen; omega
  case c3 => exact Nat.le_refl _
  intro w1 hown1 hgrow1
  have hb1 : Below W.heap.size W w1 := (Below.refl _ _).grown hgrow1 (Nat.le_refl _) (by simp)
  have hL1 : Own w1 W.heap.size 36 3 (.slice (some ⟨W.heap.size, 0, none⟩) 0 P.n) (tox g 0) (rowK P g 0) := hown1
  have H1 := tmh (And.intro hL1 (And.intro hb1 (HV.out.2.1.later hb1)))
  clear hown1 hgrow1 hL1 hb1 y0 y1 y2 y3
  obtain ⟨B, hB⟩ : ∃ B, B = W.heap.size := ⟨_, rfl⟩
  rw [← hB] at H1 ⊢
  obtain ⟨y0, y1, y2, y3⟩ := H1.out.2.2.cells
  go_upto_region 2 with (at_make; refine wpList_make_full _ rfl (.tmp 20) (.tmp 20) 23 rfl w1.heap.size 3 i5 _ 1 Tryz.underlying23 hi5 hz0 hz1 .i64 .i64 P.n P.n P.n rfl rfl rfl rfl ?c1 ?c2 ?c3 ?_)
  case c1 => rw [hz2]; omega
  case c2 => unfold maxLen; omega
  case c3 => exact Nat.le_refl _
  intro w2 hown2 hgrow2
  have hb2 : Below w1.heap.size w1 w2 := (Below.refl _ _).grown hgrow2 (Nat.le_refl _) (by simp)
  have hO2 : Own w2 w1.heap.size 3 1 (.slice (some ⟨w1.heap.size, 0, none⟩) P.n P.n) P.n (iv fun x => (((fun x => if x < 0 then tox g x else 0) x : Nat) : Int)) := (own_of hown2).congr fun j hj => by
    have h6 : (Value.int .i64 0).cells.size = 1 := rfl
    unfold madeCells iv
    have hj2 : j < P.n := by omega
    simp [hj2, h6]
    rw [Nat.mod_one]
    rfl
  obtain ⟨C, hC⟩ : ∃ C, C = w1.heap.size := ⟨_, rfl⟩
  rw [← hC] at hO2 ⊢
  have hBC : B < C := by rw [hC]; exact (H1.out.1.lt B rfl).2
  have H2 := tmh (And.intro (H1.out.1.later hb2) (And.intro hO2 (And.intro (H1.out.2.2.later hb2) (And.intro (H1.out.2.1.trans (hb2.mono (by rw [← hC]; omega))) (And.intro hBC (And.intro hb2 hC))))))
  have HB := tmh hB
  clear hown2 hgrow2 hO2 hb2 y0 y1 y2 y3 H1 hC hBC hB
  obtain ⟨y0, y1, y2, y3⟩ := H2.out.2.2.1.cells
  go_wp2_with fail
  clear y0 y1 y2 y3 hi5 hz0 hz1 hz2
  go_loopw [4, 28] (fun y x wr => ∃ (k gl cl : Nat), y = .slice (some ⟨gl, 0, none⟩) (tox g k) cl ∧ x = .int .i64 (k : Int) ∧ k ≤ P.n ∧ gl ≠ C ∧ Own wr B 36 3 (.slice (some ⟨gl, 0, none⟩) (tox g k) cl) (tox g k) (rowK P g k) ∧ Own wr C 3 1 (.slice (some ⟨C, 0, none⟩) P.n P.n) P.n (iv fun x => (((fun x => if x < k then tox g x else 0) x : Nat) : Int)) ∧ TD Sf Hf wr base tb P cp ep cc ec ∧ Below B W wr) (fun _ x _ => P.n - (intOf x).toNat)
  case atStart => exact ⟨0, B, P.n, by rw [HB.out]; rfl, rfl, Nat.zero_le _, Nat.ne_of_lt H2.out.2.2.2.2.1, H2.out.1, H2.out.2.1, H2.out.2.2.1, H2.out.2.2.2.1⟩
  case round =>
    obtain ⟨k, gl, cl, rfl, rfl, hk, hgc, hO, hT, hTD, hbr⟩ := hrel
    have HR := tmh (And.intro hgc (And.intro hO (And.intro hT (And.intro hTD hbr))))
    clear hgc hO hT hTD hbr
    by_cases hlt : k < P.n
    · have d1 : decide ((k : Int) < (P.n : Int)) = true := by simp; omega
      have d2 : decide (k < P.n) = true := by simp; omega
      have i0 : (0 : Int) ≤ (k : Int) := by omega
      have i1 : (k : Int) < (P.n : Int) := by omega
      have ek : IntKind.i64.wrap ((k : Int) + 1) = ((k + 1 : Nat) : Int) := by rw [IntKind.wrap_i64]; omega
      have hm := meas0 hlt
      obtain ⟨gc, hg⟩ := HR.out.2.2.2.1.ip (by omega)
      subst hg
      obtain ⟨⟨x0, x1, x2⟩, hfz⟩ := HR.out.2.2.2.1.ins hlt
      clear hfz
      obtain ⟨w5, hw5⟩ : ∃ w5, wr.alloc (.cells #[.int .i64 (P.op k), .int .i64 (P.a k), .int .i64 (P.b k)] 36) = w5 := ⟨_, rfl⟩
      have HW5 := tmh hw5
      have hb5 : Below wr.heap.size wr w5 := by rw [← hw5]; exact (Below.refl _ wr).alloc (Nat.le_refl _) _
      have hx5 : w5.heap[wr.heap.size]? = some (.cells #[.int .i64 (P.op k), .int .i64 (P.a k), .int .i64 (P.b k)] 36 (0, 0)) := by rw [← hw5]; exact World.alloc_heap_new wr _
      have hCr : C < wr.heap.size := (HR.out.2.2.1.lt C rfl).2
      have hBC : B < C := H2.out.2.2.2.2.1
      have hO5 := HR.out.2.2.1.later hb5
      obtain ⟨q0, f0, _⟩ := own_intc hO5 hlt
      have H5 := tmh (And.intro (HR.out.2.1.later hb5) (And.intro hO5 (And.intro (HR.out.2.2.2.1.later hb5) (And.intro (HR.out.2.2.2.2.trans (hb5.mono (by omega))) (And.intro hx5 (And.intro hb5 hCr))))))
      clear hw5 hb5 hx5 hO5 hk
      go_upto_region 5 with fail
      rw [HW5.out]
      clear x0 x1 x2 HW5
      have hs6 := own_updN H5.out.2.1 k (tox g k)
      have hb6 : Below C w5 (w5.setCell ⟨C, k, none⟩ (.int .i64 ((tox g k : Nat) : Int))) := (Below.refl _ w5).setCell (p := ⟨C, k, none⟩) (Nat.le_refl _) _
      obtain ⟨w6, hw6⟩ : ∃ w6, w5.setCell ⟨C, k, none⟩ (.int .i64 ((tox g k : Nat) : Int)) = w6 := ⟨_, rfl⟩
      have HW6 := tmh hw6
      have hk6 : ∀ j, j ≠ C → w6.heap[j]? = w5.heap[j]? := fun j hj => by rw [← hw6]; exact Below.heap_setCell _ _ _ _ hj
      rw [hw6] at hs6 hb6
      have hb6W : Below B W w6 := H5.out.2.2.2.1.trans (hb6.mono (Nat.le_of_lt hBC))
      have hO6 : Own w6 B 36 3 (.slice (some ⟨gl, 0, none⟩) (tox g k) cl) (tox g k) (rowK P g k) := H5.out.1.far fun j hj => hk6 j fun e => by
        simp [Value.ownBlock] at hj
        exact HR.out.1 (hj.trans e)
      have hT6 : TD Sf Hf w6 base tb P (some ⟨gc, 0, none⟩) ep cc ec := HV.out.2.1.later (by rw [← HB.out]; exact hb6W)
      have HCA := HV.out.2.2.2 w6 (by rw [← HB.out]; exact hb6W) k hlt
      have hx6 : w6.heap[wr.heap.size]? = some (.cells #[.int .i64 (P.op k), .int .i64 (P.a k), .int .i64 (P.b k)] 36 (0, 0)) := (hk6 _ (by omega)).trans H5.out.2.2.2.2.1
      have H6 := tmh (And.intro hO6 (And.intro hs6 (And.intro hT6 (And.intro hb6W hx6))))
      have hl6 : wr.heap.size < w6.heap.size := ltB hx6
      clear hs6 hb6 hk6 hO6 hT6 hb6W hx6 hw6
      go_upto_region 6 with fail
      rw [HW6.out]
      clear HW6 f0 q0
      rcases (by cases g k <;> simp : g k = true ∨ g k = false) with hgk | hgk
      · rw [hgk] at HCA
        go_upto_region 8 with (go_at_call 85; (with_reducible refine HCA.mono ?_); rintro e w7 ⟨rfl, hb7⟩; have HC7 := tmh hb7; clear hb7)
        have HG := tmh hgk
        clear hgk
        go_wp2_with fail
        refine ⟨⟨k + 1, gl, cl, by rw [tox_succ, HG.out]; rfl, rfl, hlt, HR.out.1, ?_, ?_, H6.out.2.2.1.later HC7.out, H6.out.2.2.2.1.trans (HC7.out.mono (by omega))⟩, hm⟩
        · have := H6.out.1.later HC7.out
          rw [rowK_drop HG.out, show tox g (k + 1) = tox g k by rw [tox_succ, HG.out]; rfl]
          exact this
        · exact (H6.out.2.1.later HC7.out).eqv fun j hj => upd_step hlt j
      · rw [hgk] at HCA
        go_upto_region 7 with (go_at_call 85; (with_reducible refine HCA.mono ?_); rintro e w7 ⟨rfl, hb7⟩; have HC7 := tmh hb7; clear hb7)
        have HG := tmh hgk
        clear hgk
        have hx7 : w7.heap[wr.heap.size]? = some (.cells #[.int .i64 (P.op k), .int .i64 (P.a k), .int .i64 (P.b k)] 36 (0, 0)) := (HC7.out.block _ hl6).trans H6.out.2.2.2.2
        have c0 : w7.cell? ⟨wr.heap.size, 0, none⟩ = some (.int .i64 (P.op k)) := by unfold World.cell?; rw [hx7]; rfl
        have c1 : w7.cell? ⟨wr.heap.size, 1, none⟩ = some (.int .i64 (P.a k)) := by unfold World.cell?; rw [hx7]; rfl
        have c2 : w7.cell? ⟨wr.heap.size, 2, none⟩ = some (.int .i64 (P.b k)) := by unfold World.cell?; rw [hx7]; rfl
        obtain ⟨w8, hw8⟩ : ∃ w8, w7.alloc (.cells #[.int .i64 (P.op k), .int .i64 (P.a k), .int .i64 (P.b k)] 36) = w8 := ⟨_, rfl⟩
        have HW8 := tmh hw8
        have hb8 : Below w7.heap.size w7 w8 := by rw [← hw8]; exact (Below.refl _ w7).alloc (Nat.le_refl _) _
        have hn8 : ∀ j u, ([.int .i64 (P.op k), .int .i64 (P.a k), .int .i64 (P.b k)] : List Value)[j]? = some u → w8.cell? ((⟨w7.heap.size, 0, none⟩ : Addr).add j) = some u := by rw [← hw8]; exact newsI w7 _ _ _ _
        have hs7 : w6.heap.size ≤ w7.heap.size := HC7.out.size
        have hb68 : Below w6.heap.size w6 w8 := HC7.out.trans (hb8.mono hs7)
        have hO8 : w8.ownsRow B 36 3 (.slice (some ⟨gl, 0, none⟩) (tox g k) cl) (tox g k) (cellsF (rowK P g k) (tox g k * 3)) := H6.out.1.later hb68
        have hlk : tox g k ≤ k := tox_le g k
        have p1 : tox g k + 1 ≤ maxLen := by unfold maxLen; omega
        have p2 : (tox g k + 1) * 24 ≤ 140737488355328 := by omega
        have hB8 : B ≤ w8.heap.size := by have := hb8.size; omega
        have H8 := tmh (And.intro hO8 (And.intro hn8 (And.intro hB8 (And.intro hb8 (And.intro hs7 hb68)))))
        clear hw8 hx7 hb8 hn8 hs7 hb68 hO8 hlk hB8
        go_wp2_with (at_builtin; rw [HW8.out]; refine wpList_append_own_at _ rfl _ _ 22 rfl B 36 i3 _ 3 24 Tryz.underlying22 hi3 ha3 hb3 hc3 rfl (by decide) _ _ _ rfl H8.out.1 ⟨w7.heap.size, 0, none⟩ 1 1 [.int .i64 (P.op k), .int .i64 (P.a k), .int .i64 (P.b k)] rfl rfl H8.out.2.1 (by simp [Value.oneCell']) p1 p2 H8.out.2.2.1 ?_; intro v' w9 hown9 hgrow9 _ hnb9; have hgrow9 : w8.grownBy w9 (some gl) := hgrow9; obtain ⟨g5, c5, rfl⟩ := ownsRow_succ hown9; have H9 := tmh (And.intro hown9 (And.intro hgrow9 hnb9)); clear hown9 hgrow9 hnb9)
        have hs8 := H8.out.2.2.2.1.size
        have hs9 := H8.out.2.2.2.2.1
        have hbl : B ≤ gl := (HR.out.2.1.lt gl rfl).1
        have hb9 : Below B W w9 := ((H6.out.2.2.2.1.trans (H8.out.2.2.2.2.2.mono (by omega))).grown H9.out.2.1 H8.out.2.2.1 (fun j hj => by injection hj with hj; omega))
        have hg5 : g5 = gl ∨ g5 = w8.heap.size := by
          rcases H9.out.2.2 with e | e
          · exact .inl (by injection e)
          · exact .inr (by injection e)
        have ht1 : tox g (k + 1) = tox g k + 1 := by rw [tox_succ, HG.out]; rfl
        refine ⟨⟨k + 1, g5, c5, by rw [ht1], rfl, hlt, ?_, ?_, ?_, HV.out.2.1.later (by rw [← HB.out]; exact hb9), hb9⟩, hm⟩
        · rcases hg5 with e | e
          · rw [e]; exact HR.out.1
          · omega
        · rw [ht1]
          refine app3 H9.out.1 (fun j hj => rowK_same hj) ?_ ?_ ?_
          · unfold rowK
            rw [inC0, kpt_last g HG.out]
          · unfold rowK
            rw [inC1, kpt_last g HG.out]
          · unfold rowK
            rw [inC2, kpt_last g HG.out]
        · have h7 := H6.out.2.1.later H8.out.2.2.2.2.2
          have h9 := h7.far (W' := w9) fun j hj => H9.out.2.1.block j (by have := (h7.lt j hj).2; omega) (fun e => by injection e with e; simp [Value.ownBlock] at hj; exact HR.out.1 (e.symm.trans hj.symm))
          exact h9.eqv fun j hj => upd_step hlt j
    · have d1 : decide ((k : Int) < (P.n : Int)) = false := by simp; omega
      have d2 : decide (k < P.n) = false := by simp; omega
      obtain rfl : k = P.n := by omega
      have hxr := HR.out.2.2.2.1.bx
      obtain ⟨y0, y1, y2, y3⟩ := HR.out.2.2.2.1.cells
      have f2 := frz hxr 2
      obtain ⟨w5, hw5⟩ : ∃ w5, wr.setCell ⟨tb, 2, none⟩ (.slice (some ⟨gl, 0, none⟩) (tox g P.n) cl) = w5 := ⟨_, rfl⟩
      have HW5 := tmh hw5
      have hB1 := HB.out
      have hltb : tb < W.heap.size := ltB HV.out.2.1.bx
      have hC1 : C < wr.heap.size := (HR.out.2.2.1.lt C rfl).2
      have hBC : B < C := H2.out.2.2.2.2.1
      have hbl : B ≤ gl ∧ gl < wr.heap.size := HR.out.2.1.lt gl rfl
      have hbase := HV.out.2.2.1
      have hk5 : ∀ j, j ≠ tb → w5.heap[j]? = wr.heap[j]? := fun j hj => by rw [← hw5]; exact Below.heap_setCell _ _ _ _ hj
      have hb5 : Below base W w5 := by rw [← hw5]; exact (HR.out.2.2.2.2.mono (by omega)).setCell (p := ⟨tb, 2, none⟩) HV.out.2.1.lo _
      have hx5 : w5.heap[tb]? = some (.cells #[.int .i64 P.words, .int .i64 P.locals, .slice (some ⟨gl, 0, none⟩) (tox g P.n) cl, .slice ep P.m ec] 67 (0, 0)) := by rw [← hw5]; exact setT hxr _
      have hO5 : Own w5 B 36 3 (.slice (some ⟨gl, 0, none⟩) (tox g P.n) cl) (tox g P.n) (rowK P g P.n) := HR.out.2.1.far fun j hj => hk5 j (by have := (HR.out.2.1.lt j hj).1; omega)
      have hT5 : Own w5 C 3 1 (.slice (some ⟨C, 0, none⟩) P.n P.n) P.n (iv fun x => ((tox g x : Nat) : Int)) := (HR.out.2.2.1.far fun j hj => hk5 j (by have := (HR.out.2.2.1.lt j hj).1; omega)).eqv fun j hj => by dsimp only; rw [if_pos (by omega)]
      have hE5 : Own w5 base 3 1 (.slice ep P.m ec) P.m (iv P.en) := HR.out.2.2.2.1.en.far fun j hj => hk5 j (ownA HR.out.2.2.2.1.en hxr (by decide) j hj)
      have hTD5 : TD Sf Hf w5 base tb (keptP P g) (some ⟨gl, 0, none⟩) ep cl ec := ⟨hx5, hO5.low (by omega), hE5, HV.out.2.1.lo, fr_keep HR.out.2.2.2.1.fr fun j hj => hk5 j fun e => HV.out.2.1.ft (e ▸ hj), HV.out.2.1.ft, fun g o e hs => by
        injection e with e
        injection e with e _
        have := (HV.out.2.1.fr g hs).1
        omega, HV.out.2.1.fe⟩
      have HL := lead_any (t := tox g) w5 hTD5 hT5 (fun j h1 h2 => by
          have h3 := (HV.out.2.1.en.lt j h1).2
          have h4 := (HR.out.2.2.1.lt j h2).1
          omega) (fun i hi hj => by
          obtain ⟨x, h1, h2, h3, h4⟩ := kpt_at g P.n (k := i) hi
          have hj : jmp (P.op ((kpt g P.n).getD i 0)) = true := hj
          show 0 ≤ P.a ((kpt g P.n).getD i 0) ∧ P.a ((kpt g P.n).getD i 0) < P.n
          rw [h4] at hj ⊢
          exact HV.out.1.gd.a x h1 hj) (fun j hj => by have h9 := HV.out.1.en j hj; show P.en j = -1 ∨ (0 ≤ P.en j ∧ P.en j < P.n); omega) ⟨Nat.le_trans (tox_le g P.n) hn, HV.out.1.sz.2.2.2⟩ (Nat.le_trans hbase hb5.size)
      have H5 := tmh hb5
      clear hw5 hk5 hb5 hx5 hO5 hT5 hE5 hTD5 hxr hB1 hltb hC1 hBC hbl hbase
      go_wp2_with (rw [HW5.out]; clear y0 y1 y2 y3 f2; go_at_call 81; (with_reducible refine HL.mono ?_); rintro e w6 ⟨rfl, hT6, hb6⟩)
      go_end0
      exact ⟨rfl, ⟨_, _, hT6⟩, H5.out.trans hb6⟩
set_option maxRecDepth 100000 in
set_option maxHeartbeats 8000000 in
theorem stp1_any {kb : Nat} (W w : World) (hb : Below W.heap.size W w) (hx : W.heap[kb]? = some (.cells #[.pointer (some ⟨tb, 0, none⟩)] 93 (0, 0))) (h : TD Sf Hf W base tb P cp ep cc ec) (hn : P.n ≤ 4096) (x : Nat) (hx4 : x < P.n) :
    Calls Tryz.prog 85 #[.int .i64 (x : Int), .pointer (some ⟨kb, 0, none⟩)] w fun e w' => e = .returned (.bool (goS P x)) ∧ Below w.heap.size w w' := by
  have hx2 : w.heap[kb]? = _ := (hb.block _ (ltB hx)).trans hx
  have x0 : w.cell? ⟨kb, 0, none⟩ = some (.pointer (some ⟨tb, 0, none⟩)) := by unfold World.cell?; rw [hx2]; rfl
  obtain ⟨g, hg⟩ := h.ip (by omega)
  subst hg
  have hT := h.later hb
  obtain ⟨⟨c0, c1, c2⟩, _⟩ := hT.ins hx4
  obtain ⟨y0, y1, y2, y3⟩ := hT.cells
  have i0 : (0 : Int) ≤ (x : Int) := by omega
  have i1 : (x : Int) < (P.n : Int) := by omega
  have ek : IntKind.i64.wrap ((x : Int) + 1) = ((x + 1 : Nat) : Int) := by rw [IntKind.wrap_i64]; omega
  clear hT h hx2 hx
  unfold goS
  rcases (by cases (P.op x == 35) <;> simp : (P.op x == 35) = true ∨ (P.op x == 35) = false) with e35 | e35
  · rw [e35]
    go_enter Tryz.func85, Tryz.ntmps85
    go_wp2_with fail
    go_ret
    exact ⟨rfl, Below.refl _ _⟩
  · rw [e35]
    go_enter Tryz.func85, Tryz.ntmps85
    go_wp2_with fail
    go_ret
    exact ⟨rfl, Below.refl _ _⟩
set_option maxRecDepth 100000 in
set_option maxHeartbeats 8000000 in
theorem dropStp_any {L : Nat → Int} (v : Vf P L) (W : World) (h : TD Sf Hf W base tb P cp ep cc ec) (hB : base ≤ W.heap.size) :
    Calls Tryz.prog 42 #[.pointer (some ⟨tb, 0, none⟩)] W fun e W' => e = .returned (.tuple #[]) ∧ (∃ lp lc, TD Sf Hf W' base tb (dropP P (goS P)) lp ep lc ec) ∧ Below base W W' := by
  obtain ⟨w1, hw1⟩ : ∃ w1, W.alloc (.cells #[.pointer (some ⟨tb, 0, none⟩)] 93) = w1 := ⟨_, rfl⟩
  have HW1 := tmh hw1
  have hx : w1.heap[W.heap.size]? = some (.cells #[.pointer (some ⟨tb, 0, none⟩)] 93 (0, 0)) := by rw [← hw1]; exact World.alloc_heap_new W _
  have hb : Below W.heap.size W w1 := by rw [← hw1]; exact (Below.refl _ W).alloc (Nat.le_refl _) _
  have hT := h.later hb
  have x0 : w1.cell? ⟨W.heap.size, 0, none⟩ = some (.pointer (some ⟨tb, 0, none⟩)) := by unfold World.cell?; rw [hx]; rfl
  have HF := (dropS_any v (goS P) W.heap.size w1 hT (Nat.le_trans hB hb.size) fun w' hw' x hx4 => stp1_any w1 w' hw' hx hT v.sz.2.2.1 x hx4)
  have HB := tmh (hb.mono hB)
  clear hw1 hx hb hT h v hB
  go_enter Tryz.func42, Tryz.ntmps42
  go_upto_region 1 with fail
  rw [HW1.out]
  go_wp2_with (go_at_call 83; (with_reducible refine HF.mono ?_); rintro e w2 ⟨rfl, h1, h2⟩)
  go_end0
  exact ⟨rfl, h1, HB.out.trans h2⟩
end Go.Proofs.YtopggemomcoalaaGreat
