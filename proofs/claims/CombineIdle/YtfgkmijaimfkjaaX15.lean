import Derived.Test.YtfgkmijaimfkjaaX14
namespace Go.Proofs.Ytfgkmijaimfkjaa
open Go.ChangeShapes Go.WideShapes Go.ChangeAt Go.RowKit
set_option linter.unusedVariables false
set_option linter.unusedSimpArgs false
variable {W0 : World} {hb wb cb n k : Nat} {B : RB} {N : Nt} {R : Rt}

theorem Sm.entv {n : Nat} {N : Nt} {k : Nat} (h : Sm N k) (x v : Int) : Sm (entN n N x v) k := by
  unfold entN
  split
  · refine ⟨fun w => ?_, h.r⟩
    show upF N.pl x.toNat 1 w ≤ 5
    unfold upF
    split
    · omega
    · exact h.p w
  · exact h
set_option maxRecDepth 100000 in
set_option maxHeartbeats 2000000 in
theorem one0 (hn1 : 1 ≤ n) (hn : n ≤ 64) (x v : Int) (hk : k < 100000000000000) (W : World) (h : PI W0 hb wb cb B n k N R W) : Calls Try.prog 20 #[.pointer (some ⟨hb, 0, none⟩), .pointer (some ⟨B.rb, 0, none⟩), .agg #[.int .i64 0, .int .i64 x, .int .i64 v]] W fun e W' => e = .returned (.bool true) ∧ ∃ R', PI W0 hb wb cb B n (k + 1) (entN n N x v) R' W' := by
  have HI : Hid (PI W0 hb wb cb B n k N R W) := h
  have hB1 : Below W.heap.size W (W.alloc (.cells #[.int .i64 0, .int .i64 x, .int .i64 v] 39)) := (Below.refl _ W).alloc (Nat.le_refl _) _
  have HB1 : Hid (Below W.heap.size W (W.alloc (.cells #[.int .i64 0, .int .i64 x, .int .i64 v] 39))) := hB1
  have HPR : Hid ((∀ w, w < n → N.pl w ≤ 5) ∧ ∀ w, w < n → N.rd w < 1000000000000000000) := ⟨fun w _ => h.sm.p w, fun w _ => by have := h.sm.r w; omega⟩
  have HP : Hid (∀ W', Below W.heap.size W W' → PI W0 hb wb cb B n k N R W') := fun W' h' => h.later h'
  have HBX : Hid ((W.alloc (.cells #[.int .i64 0, .int .i64 x, .int .i64 v] 39)).heap[W.heap.size]? = some (.cells #[.int .i64 0, .int .i64 x, .int .i64 v] 39 (0, 0))) := World.alloc_heap_new W _
  clear h hB1
  have HE := fun W' h' => nenter_any x v W' (HP.out W' h').nw
  have HF := fun W' N' (h' : PH W0 hb wb cb B n N' R W') => renter_any HI.out.rl hn x v W' h'.rn h'.bl.size
  unfold rvA at HF
  go_enter Try.func20, Try.ntmps20
  go_wp2_with fail
  go_region_held3 (fun w' => w'.cell? ⟨W.heap.size, 1, none⟩ = some (.int .i64 x) ∧ w'.cell? ⟨W.heap.size, 2, none⟩ = some (.int .i64 v)) (first | exact ⟨b1, b2⟩ | exact ⟨d1, d2⟩ | go_keep) ((first | (go_at_call 57; (with_reducible refine (HE _ ?_).mono ?_); (first | exact HB1.out | exact HB1.out.drew | exact HB1.out.trans ((below_drewNq _ _ _).mono HB1.out.size)); rintro e w1 ⟨rfl, hc1⟩; have hx1 : w1.heap[W.heap.size]? = some (.cells #[.int .i64 0, .int .i64 x, .int .i64 v] 39 (0, 0)) := box_ch hc1.2 HBX.out (fun e => by have := HI.out.nw.lt; rcases e with e | e <;> omega); have b1 := box_cell (r := 1) hx1 rfl; have b2 := box_cell (r := 2) hx1 rfl; have hh1 := (HP.out _ (by first | exact HB1.out | exact HB1.out.drew | exact HB1.out.trans ((below_drewNq _ _ _).mono HB1.out.size))).half hc1.1 hc1.2; have HF1 := HF _ _ hh1; have HX1 : Hid (PH W0 hb wb cb B n (entN n N x v) R w1 ∧ w1.heap[W.heap.size]? = some (.cells #[.int .i64 0, .int .i64 x, .int .i64 v] 39 (0, 0))) := ⟨hh1, hx1⟩; clear hc1 hx1 hh1) | (go_at_call 27; (with_reducible refine HF1.mono ?_); rintro e w2 ⟨rfl, R2, hl2, hc2⟩; have hx2 := box_ch hc2.2 HX1.out.2 (HX1.out.1.rn.not HX1.out.2 (by decide)); have d1 := box_cell (r := 1) hx2 rfl; have d2 := box_cell (r := 2) hx2 rfl; have HX2 : Hid (∃ R', PI W0 hb wb cb B n (k + 1) (entN n N x v) R' w2) := ⟨R2, HX1.out.1.whole hc2 hl2 ((HI.out.sm.entv x v).mono (Nat.le_succ _))⟩; clear hc2 hl2 hx2)))
  all_goals (
    go_wp2_with fail
    go_ret
    first | exact ⟨rfl, HX2.out⟩ | exact ⟨by simp, HX2.out⟩)
set_option maxRecDepth 100000 in
set_option maxHeartbeats 2000000 in
theorem one1 (hn1 : 1 ≤ n) (hn : n ≤ 64) (x v : Int) (hk : k < 100000000000000) (W : World) (h : PI W0 hb wb cb B n k N R W) : Calls Try.prog 20 #[.pointer (some ⟨hb, 0, none⟩), .pointer (some ⟨B.rb, 0, none⟩), .agg #[.int .i64 1, .int .i64 x, .int .i64 v]] W fun e W' => e = .returned (.bool true) ∧ ∃ R', PI W0 hb wb cb B n (k + 1) (stpN J0 n N x) R' W' := by
  have HI : Hid (PI W0 hb wb cb B n k N R W) := h
  have hB1 : Below W.heap.size W (W.alloc (.cells #[.int .i64 1, .int .i64 x, .int .i64 v] 39)) := (Below.refl _ W).alloc (Nat.le_refl _) _
  have HB1 : Hid (Below W.heap.size W (W.alloc (.cells #[.int .i64 1, .int .i64 x, .int .i64 v] 39))) := hB1
  have HPR : Hid ((∀ w, w < n → N.pl w ≤ 5) ∧ ∀ w, w < n → N.rd w < 1000000000000000000) := ⟨fun w _ => h.sm.p w, fun w _ => by have := h.sm.r w; omega⟩
  have HP : Hid (∀ W', Below W.heap.size W W' → PI W0 hb wb cb B n k N R W') := fun W' h' => h.later h'
  have HBX : Hid ((W.alloc (.cells #[.int .i64 1, .int .i64 x, .int .i64 v] 39)).heap[W.heap.size]? = some (.cells #[.int .i64 1, .int .i64 x, .int .i64 v] 39 (0, 0))) := World.alloc_heap_new W _
  clear h hB1
  have HE := fun W' h' => nStep_any 56 #[] (fun a _ => a) (fun _ => True) (fun _ => False) (foJn hb wb cb) x hn HPR.out.1 HPR.out.2 W' (HP.out W' h').nw trivial
  have HF := fun W' N' (h' : PH W0 hb wb cb B n N' R W') => rstep_any HI.out.rl hn x HPR.out.1 HPR.out.2 W' h'.rn
  have sB : stpB (fun a _ => a) n N x = stpB J0 n N x := rfl
  simp only [sB] at HE
  obtain ⟨q, hq⟩ : ∃ q, stpB J0 n N x = q := ⟨_, rfl⟩
  simp only [hq] at HE HF
  obtain ⟨y, hy⟩ : ∃ y, stpE n N x = y := ⟨_, rfl⟩
  simp only [hy] at HE HF
  clear hq hy sB
  go_enter Try.func20, Try.ntmps20
  go_wp2_with (first | (go_at_call 58; (with_reducible refine (HE _ ?_).mono ?_); (first | exact HB1.out | exact HB1.out.drew | exact HB1.out.trans ((below_drewNq _ _ _).mono HB1.out.size)); rintro e w1 ⟨rfl, hc1⟩; have hx1 : w1.heap[W.heap.size]? = some (.cells #[.int .i64 1, .int .i64 x, .int .i64 v] 39 (0, 0)) := box_ch hc1.2.2 HBX.out (fun e => by have := HI.out.nw.lt; rcases e with (e | e) | e; omega; omega; exact e); have b1 := box_cell (r := 1) hx1 rfl; have hh1 := (HP.out _ (by first | exact HB1.out | exact HB1.out.drew | exact HB1.out.trans ((below_drewNq _ _ _).mono HB1.out.size))).half hc1.1 (hc1.2.2.mono fun _ e => e.elim id False.elim); have HF1 := HF _ _ hh1; have HX1 : Hid (PH W0 hb wb cb B n (stpN J0 n N x) R w1) := hh1; clear hc1 hx1 hh1) | (go_at_call 28; (with_reducible refine HF1.mono ?_); rintro e w2 ⟨rfl, R2, hl2, hc2⟩; have HX2 : Hid (∃ R', PI W0 hb wb cb B n (k + 1) (stpN J0 n N x) R' w2) := ⟨R2, HX1.out.whole hc2 hl2 (HI.out.sm.stp x)⟩; clear hc2 hl2))
  go_ret
  first | exact ⟨rfl, HX2.out⟩ | exact ⟨by simp, HX2.out⟩
set_option maxRecDepth 100000 in
set_option maxHeartbeats 2000000 in
theorem one2 (hn1 : 1 ≤ n) (hn : n ≤ 64) (x v : Int) (hk : k < 100000000000000) (W : World) (h : PI W0 hb wb cb B n k N R W) : Calls Try.prog 20 #[.pointer (some ⟨hb, 0, none⟩), .pointer (some ⟨B.rb, 0, none⟩), .agg #[.int .i64 2, .int .i64 x, .int .i64 v]] W fun e W' => e = .returned (.bool true) ∧ ∃ R', PI W0 hb wb cb B n (k + 1) N R' W' := by
  have HI : Hid (PI W0 hb wb cb B n k N R W) := h
  have hB1 : Below W.heap.size W (W.alloc (.cells #[.int .i64 2, .int .i64 x, .int .i64 v] 39)) := (Below.refl _ W).alloc (Nat.le_refl _) _
  have HB1 : Hid (Below W.heap.size W (W.alloc (.cells #[.int .i64 2, .int .i64 x, .int .i64 v] 39))) := hB1
  have HPR : Hid ((∀ w, w < n → N.pl w ≤ 5) ∧ ∀ w, w < n → N.rd w < 1000000000000000000) := ⟨fun w _ => h.sm.p w, fun w _ => by have := h.sm.r w; omega⟩
  have HP : Hid (∀ W', Below W.heap.size W W' → PI W0 hb wb cb B n k N R W') := fun W' h' => h.later h'
  have HBX : Hid ((W.alloc (.cells #[.int .i64 2, .int .i64 x, .int .i64 v] 39)).heap[W.heap.size]? = some (.cells #[.int .i64 2, .int .i64 x, .int .i64 v] 39 (0, 0))) := World.alloc_heap_new W _
  clear h hB1
  have HE := fun W' h' => nvalue_any x W' (HP.out W' h').nw
  have HF := fun W' h' => rvalue_any x W' (HP.out W' h').rn
  simp only [HI.out.rl.valV, HI.out.rl.valE] at HF
  unfold rvA at HF
  obtain ⟨q, hq⟩ : ∃ q, valV n N x = q := ⟨_, rfl⟩
  simp only [hq] at HE HF
  obtain ⟨y, hy⟩ : ∃ y, valE n N x = y := ⟨_, rfl⟩
  simp only [hy] at HE HF
  clear hq hy
  go_enter Try.func20, Try.ntmps20
  go_wp2_with (first | (go_at_call 59; (with_reducible refine (HE _ ?_).mono ?_); (first | exact HB1.out | exact HB1.out.drew | exact HB1.out.trans ((below_drewNq _ _ _).mono HB1.out.size)); rintro e w1 ⟨rfl, h9⟩; subst h9) | (go_at_call 29; (with_reducible refine (HF _ ?_).mono ?_); (first | exact HB1.out | exact HB1.out.drew | exact HB1.out.trans ((below_drewNq _ _ _).mono HB1.out.size)); rintro e w2 ⟨rfl, hb2⟩; have HX2 : Hid (Below W.heap.size W w2) := HB1.out.trans (hb2.mono HB1.out.size); clear hb2))
  go_ret
  first | exact ⟨rfl, R, (HP.out _ ((HX2.out).alloc HX2.out.size _)).mono (Nat.le_succ k)⟩ | exact ⟨by simp, R, (HP.out _ ((HX2.out).alloc HX2.out.size _)).mono (Nat.le_succ k)⟩
set_option maxRecDepth 100000 in
set_option maxHeartbeats 2000000 in
theorem one3 (hn1 : 1 ≤ n) (hn : n ≤ 64) (x v : Int) (hk : k < 100000000000000) (W : World) (h : PI W0 hb wb cb B n k N R W) : Calls Try.prog 20 #[.pointer (some ⟨hb, 0, none⟩), .pointer (some ⟨B.rb, 0, none⟩), .agg #[.int .i64 3, .int .i64 x, .int .i64 v]] W fun e W' => e = .returned (.bool true) ∧ ∃ R', PI W0 hb wb cb B n (k + 1) N R' W' := by
  have HI : Hid (PI W0 hb wb cb B n k N R W) := h
  have hB1 : Below W.heap.size W (W.alloc (.cells #[.int .i64 3, .int .i64 x, .int .i64 v] 39)) := (Below.refl _ W).alloc (Nat.le_refl _) _
  have HB1 : Hid (Below W.heap.size W (W.alloc (.cells #[.int .i64 3, .int .i64 x, .int .i64 v] 39))) := hB1
  have HPR : Hid ((∀ w, w < n → N.pl w ≤ 5) ∧ ∀ w, w < n → N.rd w < 1000000000000000000) := ⟨fun w _ => h.sm.p w, fun w _ => by have := h.sm.r w; omega⟩
  have HP : Hid (∀ W', Below W.heap.size W W' → PI W0 hb wb cb B n k N R W') := fun W' h' => h.later h'
  have HBX : Hid ((W.alloc (.cells #[.int .i64 3, .int .i64 x, .int .i64 v] 39)).heap[W.heap.size]? = some (.cells #[.int .i64 3, .int .i64 x, .int .i64 v] 39 (0, 0))) := World.alloc_heap_new W _
  clear h hB1
  have HE := fun W' h' => nrounds_any x W' (HP.out W' h').nw
  have HF := fun W' h' => rrounds_any x W' (HP.out W' h').rn
  simp only [HI.out.rl.rdE] at HF
  obtain ⟨q, hq⟩ : ∃ q, (if inN n x = true then (N.rd x.toNat : Int) else 0) = q := ⟨_, rfl⟩
  simp only [hq] at HE HF
  clear hq
  go_enter Try.func20, Try.ntmps20
  go_wp2_with fail
  go_quiet ((first | (go_at_call 60; refine Calls.quiet_of_same (HE _ ?_); (first | exact HB1.out | exact HB1.out.drew | exact HB1.out.trans ((below_drewNq _ _ _).mono HB1.out.size))) | (go_at_call 30; refine Calls.quiet_of_same (HF _ ?_); (first | exact HB1.out | exact HB1.out.drew | exact HB1.out.trans ((below_drewNq _ _ _).mono HB1.out.size)))))
  go_wp2_with fail
  go_ret
  have hz := (HP.out _ (HB1.out.trans ((below_drewNq _ _ nq).mono HB1.out.size))).mono (Nat.le_succ k)
  first | exact ⟨rfl, R, hz⟩ | exact ⟨by simp, R, hz⟩
set_option maxRecDepth 100000 in
set_option maxHeartbeats 2000000 in
theorem one4 (hn1 : 1 ≤ n) (hn : n ≤ 64) (x v : Int) (hk : k < 100000000000000) (W : World) (h : PI W0 hb wb cb B n k N R W) : Calls Try.prog 20 #[.pointer (some ⟨hb, 0, none⟩), .pointer (some ⟨B.rb, 0, none⟩), .agg #[.int .i64 4, .int .i64 x, .int .i64 v]] W fun e W' => e = .returned (.bool true) ∧ ∃ R', PI W0 hb wb cb B n (k + 1) N R' W' := by
  have HI : Hid (PI W0 hb wb cb B n k N R W) := h
  have hB1 : Below W.heap.size W (W.alloc (.cells #[.int .i64 4, .int .i64 x, .int .i64 v] 39)) := (Below.refl _ W).alloc (Nat.le_refl _) _
  have HB1 : Hid (Below W.heap.size W (W.alloc (.cells #[.int .i64 4, .int .i64 x, .int .i64 v] 39))) := hB1
  have HPR : Hid ((∀ w, w < n → N.pl w ≤ 5) ∧ ∀ w, w < n → N.rd w < 1000000000000000000) := ⟨fun w _ => h.sm.p w, fun w _ => by have := h.sm.r w; omega⟩
  have HP : Hid (∀ W', Below W.heap.size W W' → PI W0 hb wb cb B n k N R W') := fun W' h' => h.later h'
  have HBX : Hid ((W.alloc (.cells #[.int .i64 4, .int .i64 x, .int .i64 v] 39)).heap[W.heap.size]? = some (.cells #[.int .i64 4, .int .i64 x, .int .i64 v] 39 (0, 0))) := World.alloc_heap_new W _
  clear h hB1
  have HE := fun W' h' => ninside_any x W' (HP.out W' h').nw
  have HF := fun W' h' => rinside_any x W' (HP.out W' h').rn
  simp only [HI.out.rl.inE] at HF
  obtain ⟨q, hq⟩ : ∃ q, (inN n x && (N.pl x.toNat != 0)) = q := ⟨_, rfl⟩
  simp only [hq] at HE HF
  clear hq
  go_enter Try.func20, Try.ntmps20
  go_wp2_with fail
  go_quiet ((first | (go_at_call 61; refine Calls.quiet_of_same (HE _ ?_); (first | exact HB1.out | exact HB1.out.drew | exact HB1.out.trans ((below_drewNq _ _ _).mono HB1.out.size))) | (go_at_call 31; refine Calls.quiet_of_same (HF _ ?_); (first | exact HB1.out | exact HB1.out.drew | exact HB1.out.trans ((below_drewNq _ _ _).mono HB1.out.size)))))
  go_wp2_with fail
  go_ret
  have hz := (HP.out _ (HB1.out.trans ((below_drewNq _ _ nq).mono HB1.out.size))).mono (Nat.le_succ k)
  first | exact ⟨rfl, R, hz⟩ | exact ⟨by simp, R, hz⟩
set_option maxRecDepth 100000 in
set_option maxHeartbeats 2000000 in
theorem one5 (hn1 : 1 ≤ n) (hn : n ≤ 64) (x v : Int) (hk : k < 100000000000000) (W : World) (h : PI W0 hb wb cb B n k N R W) : Calls Try.prog 20 #[.pointer (some ⟨hb, 0, none⟩), .pointer (some ⟨B.rb, 0, none⟩), .agg #[.int .i64 5, .int .i64 x, .int .i64 v]] W fun e W' => e = .returned (.bool true) ∧ ∃ R', PI W0 hb wb cb B n (k + 1) N R' W' := by
  have HI : Hid (PI W0 hb wb cb B n k N R W) := h
  have hB1 : Below W.heap.size W (W.alloc (.cells #[.int .i64 5, .int .i64 x, .int .i64 v] 39)) := (Below.refl _ W).alloc (Nat.le_refl _) _
  have HB1 : Hid (Below W.heap.size W (W.alloc (.cells #[.int .i64 5, .int .i64 x, .int .i64 v] 39))) := hB1
  have HPR : Hid ((∀ w, w < n → N.pl w ≤ 5) ∧ ∀ w, w < n → N.rd w < 1000000000000000000) := ⟨fun w _ => h.sm.p w, fun w _ => by have := h.sm.r w; omega⟩
  have HP : Hid (∀ W', Below W.heap.size W W' → PI W0 hb wb cb B n k N R W') := fun W' h' => h.later h'
  have HBX : Hid ((W.alloc (.cells #[.int .i64 5, .int .i64 x, .int .i64 v] 39)).heap[W.heap.size]? = some (.cells #[.int .i64 5, .int .i64 x, .int .i64 v] 39 (0, 0))) := World.alloc_heap_new W _
  clear h hB1
  have HE := fun W' h' => ncells_any hn W' (HP.out W' h').nw
  have HF := fun W' h' => rcells_any hn W' (HP.out W' h').rn
  have HFL := HI.out.rl.fl
  go_enter Try.func20, Try.ntmps20
  go_wp2_with (first | (go_at_call 24; (with_reducible refine (HE _ ?_).mono ?_); (first | exact HB1.out | exact HB1.out.drew | exact HB1.out.trans ((below_drewNq _ _ _).mono HB1.out.size)); rintro e w1 ⟨g1, rfl, hcl1, hb1⟩; have hB1' : Below W.heap.size W w1 := HB1.out.trans (hb1.mono HB1.out.size); have HF1 := HF w1 hB1'; have HX1 : Hid (CList w1 (W.alloc (.cells #[.int .i64 5, .int .i64 x, .int .i64 v] 39)).heap.size g1 n N.up N.dn ∧ Below W.heap.size W w1 ∧ (W.alloc (.cells #[.int .i64 5, .int .i64 x, .int .i64 v] 39)).heap.size ≤ w1.heap.size) := ⟨hcl1, hB1', hb1.size⟩; clear hcl1 hb1 hB1') | (go_at_call 25; (with_reducible refine HF1.mono ?_); rintro e w2 ⟨v2, rfl, ho2, hb2⟩; obtain ⟨g2, c2, rfl⟩ : ∃ g c, v2 = .slice (some ⟨g, 0, none⟩) n c := (by rcases Own.form ho2 with ⟨_, h2⟩ | ⟨g, c, h2, _⟩; omega; exact ⟨g, c, h2⟩); have HTK := taken_any hn1 hn w2 (Own.later HX1.out.1 hb2) (ho2.congr HFL) (Nat.le_trans HX1.out.2.2 hb2.size); have HX2 : Hid (Below W.heap.size W w2) := HX1.out.2.1.trans (hb2.mono HX1.out.2.1.size); clear ho2 hb2) | (go_at_call 32; (with_reducible refine HTK.mono ?_); rintro e w3 ⟨rfl, hb3⟩; have HX3 : Hid (Below W.heap.size W w3) := HX2.out.trans (hb3.mono (by rw [World.size_alloc]; omega)); clear hb3))
  go_ret
  exact ⟨rfl, R, (HP.out _ HX3.out).mono (Nat.le_succ k)⟩
set_option maxRecDepth 100000 in
set_option maxHeartbeats 2000000 in
theorem one6 (kd : Int) (hne : kd ≠ 0 ∧ kd ≠ 1 ∧ kd ≠ 2 ∧ kd ≠ 3 ∧ kd ≠ 4 ∧ kd ≠ 5) (hn1 : 1 ≤ n) (hn : n ≤ 64) (x v : Int) (hk : k < 100000000000000) (W : World) (h : PI W0 hb wb cb B n k N R W) : Calls Try.prog 20 #[.pointer (some ⟨hb, 0, none⟩), .pointer (some ⟨B.rb, 0, none⟩), .agg #[.int .i64 kd, .int .i64 x, .int .i64 v]] W fun e W' => e = .returned (.bool true) ∧ ∃ R', PI W0 hb wb cb B n (k + 1) N R' W' := by
  have HI : Hid (PI W0 hb wb cb B n k N R W) := h
  have hB1 : Below W.heap.size W (W.alloc (.cells #[.int .i64 kd, .int .i64 x, .int .i64 v] 39)) := (Below.refl _ W).alloc (Nat.le_refl _) _
  have HB1 : Hid (Below W.heap.size W (W.alloc (.cells #[.int .i64 kd, .int .i64 x, .int .i64 v] 39))) := hB1
  have HPR : Hid ((∀ w, w < n → N.pl w ≤ 5) ∧ ∀ w, w < n → N.rd w < 1000000000000000000) := ⟨fun w _ => h.sm.p w, fun w _ => by have := h.sm.r w; omega⟩
  have HP : Hid (∀ W', Below W.heap.size W W' → PI W0 hb wb cb B n k N R W') := fun W' h' => h.later h'
  have HBX : Hid ((W.alloc (.cells #[.int .i64 kd, .int .i64 x, .int .i64 v] 39)).heap[W.heap.size]? = some (.cells #[.int .i64 kd, .int .i64 x, .int .i64 v] 39 (0, 0))) := World.alloc_heap_new W _
  clear h hB1
  have b0 : (kd == 0) = false := by simp; omega
  have b1 : (kd == 1) = false := by simp; omega
  have b2 : (kd == 2) = false := by simp; omega
  have b3 : (kd == 3) = false := by simp; omega
  have b4 : (kd == 4) = false := by simp; omega
  have b5 : (kd == 5) = false := by simp; omega
  go_enter Try.func20, Try.ntmps20
  go_wp2_with fail
  go_ret
  exact ⟨rfl, R, (HP.out _ HB1.out).mono (Nat.le_succ k)⟩
end Go.Proofs.Ytfgkmijaimfkjaa
