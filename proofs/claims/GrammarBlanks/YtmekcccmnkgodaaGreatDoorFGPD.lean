import Derived.Test.YtmekcccmnkgodaaGreatDoorFGP9
import Derived.Test.YtmekcccmnkgodaaGreatDoorFGPL
namespace Go.Proofs.YtmekcccmnkgodaaGreatDoor
open Go.ChangeShapes Go.WideShapes Go.ChangeAt Go.RowKit
set_option linter.unusedVariables false
set_option linter.unusedSimpArgs false
set_option maxRecDepth 100000 in
set_option maxHeartbeats 2000000 in
theorem ct_atom {X : Nat → Tk} {n f : Nat} (hA : TkA X n) (ih : ∀ g, g ≤ f → CT X n g) {w : World} {base pb : Nat} {lp : Option Addr} {lc : Nat} {s : St} {ks : List Value} (h : PS X n w base pb lp lc s ks) (hm : s.md.length + 0 ≤ s.nx) (hne : P X n (f + 1) (.atom) s ≠ .out) : Calls Tryz.prog 115 #[.pointer (some ⟨pb, 0, none⟩)] w (Ft base pb lp lc n X w ks false (P X n (f + 1) (.atom) s)) := by
  generalize hR : P X n (f + 1) (.atom) s = R at hne ⊢
  rw [P_atom] at hR
  have HR0 := mhid hR
  have HN := mhid hne
  have N0 := mhid (Now.start h)
  have IC := mhid (ih f (Nat.le_refl _))
  have G0 := mhid (And.intro hm (And.intro h.p.nx (And.intro h.p.dp hA.hn)))
  have IH := mhid ih
  clear hR hne h ih hm
  by_cases q2 : kd X n s = 2
  · have h9 := HR0.out
    rw [if_pos q2] at h9
    clear HR0
    have HR0 := mhid h9
    clear h9
    go_enter Tryz.func115, Tryz.ntmps115
    go_wp2_with (first
      | (go_at_call 51; (with_reducible refine (now_kind hA (X := X) (n := n) (w := w) (base := base) (pb := pb) (lp := lp) (lc := lc) (ks0 := ks) (s := s) (ks := ks) ?_).mono ?_); (first | with_reducible exact N0.out | with_reducible exact N0.out.below ((Below.refl _ _).alloc (Nat.le_refl _) _) | with_reducible exact N0.out.below (Below.refl _ _).drew | with_reducible exact N0.out.below ((Below.refl _ _).drew.alloc (Nat.le_refl _) _) | with_reducible exact N0.out.below (((Below.refl _ _).alloc (Nat.le_refl _) _).drew)); rintro e w1 ⟨rfl, n1, u1⟩; have N1 := mhid n1; have HR1 := mhid HR0.out; clear n1 u1 N0 HR0)
      | (go_at_call 73; (with_reducible refine (now_take hA (X := X) (n := n) (w := w) (base := base) (pb := pb) (lp := lp) (lc := lc) (ks0 := ks) (s := s) (ks := ks) ?_ (2) (by decide)).mono ?_); (first | with_reducible exact N1.out | with_reducible exact N1.out.below ((Below.refl _ _).alloc (Nat.le_refl _) _) | with_reducible exact N1.out.below (Below.refl _ _).drew | with_reducible exact N1.out.below ((Below.refl _ _).drew.alloc (Nat.le_refl _) _) | with_reducible exact N1.out.below (((Below.refl _ _).alloc (Nat.le_refl _) _).drew)); rintro e w2 (h2 | h2); (obtain ⟨er, h2, h3⟩ := h2; have h9 := HR1.out; simp only [h2, Pr_bad] at h9; have h5 := h3; obtain ⟨b9, rfl, -, -, -⟩ := h3; exact And.intro rfl (ft_bad h5 h9)); obtain ⟨s2, t2, r2, rfl, n2, u2⟩ := h2; have N2 := mhid n2; have h9 := HR1.out; simp only [r2, Pr_ok] at h9; have HR2 := mhid h9; clear h9 HR1; have G2 := mhid (take_nx r2); clear n2 u2 r2 N1)
      | (go_at_call 36; (with_reducible refine (call_add0 (X := X) (n := n) (w := w) (base := base) (pb := pb) (lp := lp) (lc := lc) (ks0 := ks) (s := s2) (ks := ks) ?_ t2 40 [] t2.num (t2.num : Int) rfl 0 ?_).mono ?_); (first | with_reducible exact N2.out | with_reducible exact N2.out.below ((Below.refl _ _).alloc (Nat.le_refl _) _) | with_reducible exact N2.out.below (Below.refl _ _).drew | with_reducible exact N2.out.below (((Below.refl _ _).alloc (Nat.le_refl _) _).drew)); (exact (by have zG0 := G0.out; have zG2 := G2.out; omega)); rintro e w3 ⟨rfl, ks3, n3, u3⟩; have bb3 : w3.heap[w2.heap.size]? = some (.cells #[.int .i64 t2.kind, .string ⟨t2.text.toArray⟩, .int .u64 (t2.num : Int), .int .i64 t2.line, .int .i64 t2.col] 40 (0, 0)) := u3.box (by first | with_reducible exact World.alloc_heap_new _ _ | with_reducible exact BB.out | exact (show _ = _ from BB.out) | exact (Below.heap_alloc _ _ _ ((Array.getElem?_eq_some_iff.1 BB.out).1)).trans BB.out) (by decide) (by decide); (try clear x0 x1 x2 x3 x4); obtain ⟨x0, x1, x2, x3, x4⟩ := cell_box5 bb3; (try clear BB); have BB := mhid bb3; clear bb3; have N3 := mhid n3; have HR3 := mhid HR2.out; clear n3 u3 N2))
    go_ret
    exact ft_place N3.out HR3.out rfl
  by_cases q1 : kd X n s = 1
  · have h9 := HR0.out
    rw [if_neg q2, if_pos q1] at h9
    clear HR0
    have HR0 := mhid h9
    clear h9
    go_enter Tryz.func115, Tryz.ntmps115
    go_wp2_with (first
      | (go_at_call 51; (with_reducible refine (now_kind hA (X := X) (n := n) (w := w) (base := base) (pb := pb) (lp := lp) (lc := lc) (ks0 := ks) (s := s) (ks := ks) ?_).mono ?_); (first | with_reducible exact N0.out | with_reducible exact N0.out.below ((Below.refl _ _).alloc (Nat.le_refl _) _) | with_reducible exact N0.out.below (Below.refl _ _).drew | with_reducible exact N0.out.below ((Below.refl _ _).drew.alloc (Nat.le_refl _) _) | with_reducible exact N0.out.below (((Below.refl _ _).alloc (Nat.le_refl _) _).drew)); rintro e w1 ⟨rfl, n1, u1⟩; have N1 := mhid n1; have HR1 := mhid HR0.out; clear n1 u1 N0 HR0)
      | (go_at_call 120; (with_reducible refine (call_named IC.out (X := X) (n := n) (w := w) (base := base) (pb := pb) (lp := lp) (lc := lc) (ks0 := ks) (s := s) (ks := ks) ?_ ?_  ?_).mono ?_); (first | with_reducible exact N1.out | with_reducible exact N1.out.below ((Below.refl _ _).alloc (Nat.le_refl _) _) | with_reducible exact N1.out.below (Below.refl _ _).drew | with_reducible exact N1.out.below ((Below.refl _ _).drew.alloc (Nat.le_refl _) _) | with_reducible exact N1.out.below (((Below.refl _ _).alloc (Nat.le_refl _) _).drew)); (exact (by have zG0 := G0.out; omega)); (exact (fun e9 => HN.out (by have h9 := HR1.out; rw [e9] at h9; exact h9.symm))); rintro e w2 (h2 | h2); (obtain ⟨er, h2, h3⟩ := h2; have h9 := HR1.out; simp only [h2, Pr_bad] at h9; have h5 := h3; obtain ⟨b9, rfl, -, -, -⟩ := h3; exact And.intro rfl (ft_bad h5 h9)); obtain ⟨s2, v2, ks2, r2, rfl, n2, u2, gw2⟩ := h2; have N2 := mhid n2; have h9 := HR1.out; simp only [r2, Pr_ok] at h9; have HR2 := mhid h9; clear h9 HR1; have G2 := mhid (fr2 rfl r2); simp only [Mt.cr, Mt.pg] at G2; clear n2 u2 r2 N1 gw2))
    go_ret
    exact ft_place N2.out HR2.out rfl
  by_cases q34 : kd X n s = 34
  · have h9 := HR0.out
    rw [if_neg q2, if_neg q1, if_pos q34] at h9
    clear HR0
    have HR0 := mhid h9
    clear h9
    go_enter Tryz.func115, Tryz.ntmps115
    go_wp2_with (first
      | (go_at_call 51; (with_reducible refine (now_kind hA (X := X) (n := n) (w := w) (base := base) (pb := pb) (lp := lp) (lc := lc) (ks0 := ks) (s := s) (ks := ks) ?_).mono ?_); (first | with_reducible exact N0.out | with_reducible exact N0.out.below ((Below.refl _ _).alloc (Nat.le_refl _) _) | with_reducible exact N0.out.below (Below.refl _ _).drew | with_reducible exact N0.out.below ((Below.refl _ _).drew.alloc (Nat.le_refl _) _) | with_reducible exact N0.out.below (((Below.refl _ _).alloc (Nat.le_refl _) _).drew)); rintro e w1 ⟨rfl, n1, u1⟩; have N1 := mhid n1; have HR1 := mhid HR0.out; clear n1 u1 N0 HR0)
      | (go_at_call 73; (with_reducible refine (now_take hA (X := X) (n := n) (w := w) (base := base) (pb := pb) (lp := lp) (lc := lc) (ks0 := ks) (s := s) (ks := ks) ?_ (34) (by decide)).mono ?_); (first | with_reducible exact N1.out | with_reducible exact N1.out.below ((Below.refl _ _).alloc (Nat.le_refl _) _) | with_reducible exact N1.out.below (Below.refl _ _).drew | with_reducible exact N1.out.below ((Below.refl _ _).drew.alloc (Nat.le_refl _) _) | with_reducible exact N1.out.below (((Below.refl _ _).alloc (Nat.le_refl _) _).drew)); rintro e w2 (h2 | h2); (obtain ⟨er, h2, h3⟩ := h2; have h9 := HR1.out; simp only [h2, Pr_bad] at h9; have h5 := h3; obtain ⟨b9, rfl, -, -, -⟩ := h3; exact And.intro rfl (ft_bad h5 h9)); obtain ⟨s2, t2, r2, rfl, n2, u2⟩ := h2; have N2 := mhid n2; have h9 := HR1.out; simp only [r2, Pr_ok] at h9; have HR2 := mhid h9; clear h9 HR1; have G2 := mhid (take_nx r2); clear n2 u2 r2 N1)
      | (go_at_call 36; (with_reducible refine (call_add0 (X := X) (n := n) (w := w) (base := base) (pb := pb) (lp := lp) (lc := lc) (ks0 := ks) (s := s2) (ks := ks) ?_ t2 45 [] 0 0 rfl 0 ?_).mono ?_); (first | with_reducible exact N2.out | with_reducible exact N2.out.below ((Below.refl _ _).alloc (Nat.le_refl _) _) | with_reducible exact N2.out.below (Below.refl _ _).drew | with_reducible exact N2.out.below (((Below.refl _ _).alloc (Nat.le_refl _) _).drew)); (exact (by have zG0 := G0.out; have zG2 := G2.out; omega)); rintro e w3 ⟨rfl, ks3, n3, u3⟩; have N3 := mhid n3; have HR3 := mhid HR2.out; clear n3 u3 N2))
    go_ret
    exact ft_place N3.out HR3.out rfl
  by_cases q35 : kd X n s = 35
  · have h9 := HR0.out
    rw [if_neg q2, if_neg q1, if_neg q34, if_pos q35] at h9
    clear HR0
    have HR0 := mhid h9
    clear h9
    go_enter Tryz.func115, Tryz.ntmps115
    go_wp2_with (first
      | (go_at_call 51; (with_reducible refine (now_kind hA (X := X) (n := n) (w := w) (base := base) (pb := pb) (lp := lp) (lc := lc) (ks0 := ks) (s := s) (ks := ks) ?_).mono ?_); (first | with_reducible exact N0.out | with_reducible exact N0.out.below ((Below.refl _ _).alloc (Nat.le_refl _) _) | with_reducible exact N0.out.below (Below.refl _ _).drew | with_reducible exact N0.out.below ((Below.refl _ _).drew.alloc (Nat.le_refl _) _) | with_reducible exact N0.out.below (((Below.refl _ _).alloc (Nat.le_refl _) _).drew)); rintro e w1 ⟨rfl, n1, u1⟩; have N1 := mhid n1; have HR1 := mhid HR0.out; clear n1 u1 N0 HR0)
      | (go_at_call 73; (with_reducible refine (now_take hA (X := X) (n := n) (w := w) (base := base) (pb := pb) (lp := lp) (lc := lc) (ks0 := ks) (s := s) (ks := ks) ?_ (35) (by decide)).mono ?_); (first | with_reducible exact N1.out | with_reducible exact N1.out.below ((Below.refl _ _).alloc (Nat.le_refl _) _) | with_reducible exact N1.out.below (Below.refl _ _).drew | with_reducible exact N1.out.below ((Below.refl _ _).drew.alloc (Nat.le_refl _) _) | with_reducible exact N1.out.below (((Below.refl _ _).alloc (Nat.le_refl _) _).drew)); rintro e w2 (h2 | h2); (obtain ⟨er, h2, h3⟩ := h2; have h9 := HR1.out; simp only [h2, Pr_bad] at h9; have h5 := h3; obtain ⟨b9, rfl, -, -, -⟩ := h3; exact And.intro rfl (ft_bad h5 h9)); obtain ⟨s2, t2, r2, rfl, n2, u2⟩ := h2; have N2 := mhid n2; have h9 := HR1.out; simp only [r2, Pr_ok] at h9; have HR2 := mhid h9; clear h9 HR1; have G2 := mhid (take_nx r2); clear n2 u2 r2 N1)
      | (go_at_call 36; (with_reducible refine (call_add0 (X := X) (n := n) (w := w) (base := base) (pb := pb) (lp := lp) (lc := lc) (ks0 := ks) (s := s2) (ks := ks) ?_ t2 46 [] 0 0 rfl 0 ?_).mono ?_); (first | with_reducible exact N2.out | with_reducible exact N2.out.below ((Below.refl _ _).alloc (Nat.le_refl _) _) | with_reducible exact N2.out.below (Below.refl _ _).drew | with_reducible exact N2.out.below (((Below.refl _ _).alloc (Nat.le_refl _) _).drew)); (exact (by have zG0 := G0.out; have zG2 := G2.out; omega)); rintro e w3 ⟨rfl, ks3, n3, u3⟩; have N3 := mhid n3; have HR3 := mhid HR2.out; clear n3 u3 N2))
    go_ret
    exact ft_place N3.out HR3.out rfl
  by_cases q36 : kd X n s = 36
  · have h9 := HR0.out
    rw [if_neg q2, if_neg q1, if_neg q34, if_neg q35, if_pos q36] at h9
    clear HR0
    have HR0 := mhid h9
    clear h9
    go_enter Tryz.func115, Tryz.ntmps115
    go_wp2_with (first
      | (go_at_call 51; (with_reducible refine (now_kind hA (X := X) (n := n) (w := w) (base := base) (pb := pb) (lp := lp) (lc := lc) (ks0 := ks) (s := s) (ks := ks) ?_).mono ?_); (first | with_reducible exact N0.out | with_reducible exact N0.out.below ((Below.refl _ _).alloc (Nat.le_refl _) _) | with_reducible exact N0.out.below (Below.refl _ _).drew | with_reducible exact N0.out.below ((Below.refl _ _).drew.alloc (Nat.le_refl _) _) | with_reducible exact N0.out.below (((Below.refl _ _).alloc (Nat.le_refl _) _).drew)); rintro e w1 ⟨rfl, n1, u1⟩; have N1 := mhid n1; have HR1 := mhid HR0.out; clear n1 u1 N0 HR0)
      | (go_at_call 73; (with_reducible refine (now_take hA (X := X) (n := n) (w := w) (base := base) (pb := pb) (lp := lp) (lc := lc) (ks0 := ks) (s := s) (ks := ks) ?_ (36) (by decide)).mono ?_); (first | with_reducible exact N1.out | with_reducible exact N1.out.below ((Below.refl _ _).alloc (Nat.le_refl _) _) | with_reducible exact N1.out.below (Below.refl _ _).drew | with_reducible exact N1.out.below ((Below.refl _ _).drew.alloc (Nat.le_refl _) _) | with_reducible exact N1.out.below (((Below.refl _ _).alloc (Nat.le_refl _) _).drew)); rintro e w2 (h2 | h2); (obtain ⟨er, h2, h3⟩ := h2; have h9 := HR1.out; simp only [h2, Pr_bad] at h9; have h5 := h3; obtain ⟨b9, rfl, -, -, -⟩ := h3; exact And.intro rfl (ft_bad h5 h9)); obtain ⟨s2, t2, r2, rfl, n2, u2⟩ := h2; have N2 := mhid n2; have h9 := HR1.out; simp only [r2, Pr_ok] at h9; have HR2 := mhid h9; clear h9 HR1; have G2 := mhid (take_nx r2); clear n2 u2 r2 N1)
      | (go_at_call 36; (with_reducible refine (call_add0 (X := X) (n := n) (w := w) (base := base) (pb := pb) (lp := lp) (lc := lc) (ks0 := ks) (s := s2) (ks := ks) ?_ t2 47 [] 0 0 rfl 0 ?_).mono ?_); (first | with_reducible exact N2.out | with_reducible exact N2.out.below ((Below.refl _ _).alloc (Nat.le_refl _) _) | with_reducible exact N2.out.below (Below.refl _ _).drew | with_reducible exact N2.out.below (((Below.refl _ _).alloc (Nat.le_refl _) _).drew)); (exact (by have zG0 := G0.out; have zG2 := G2.out; omega)); rintro e w3 ⟨rfl, ks3, n3, u3⟩; have N3 := mhid n3; have HR3 := mhid HR2.out; clear n3 u3 N2))
    go_ret
    exact ft_place N3.out HR3.out rfl
  by_cases q37 : kd X n s = 37
  · have h9 := HR0.out
    rw [if_neg q2, if_neg q1, if_neg q34, if_neg q35, if_neg q36, if_pos q37] at h9
    clear HR0
    have HR0 := mhid h9
    clear h9
    go_enter Tryz.func115, Tryz.ntmps115
    go_wp2_with (first
      | (go_at_call 51; (with_reducible refine (now_kind hA (X := X) (n := n) (w := w) (base := base) (pb := pb) (lp := lp) (lc := lc) (ks0 := ks) (s := s) (ks := ks) ?_).mono ?_); (first | with_reducible exact N0.out | with_reducible exact N0.out.below ((Below.refl _ _).alloc (Nat.le_refl _) _) | with_reducible exact N0.out.below (Below.refl _ _).drew | with_reducible exact N0.out.below ((Below.refl _ _).drew.alloc (Nat.le_refl _) _) | with_reducible exact N0.out.below (((Below.refl _ _).alloc (Nat.le_refl _) _).drew)); rintro e w1 ⟨rfl, n1, u1⟩; have N1 := mhid n1; have HR1 := mhid HR0.out; clear n1 u1 N0 HR0)
      | (go_at_call 121; (with_reducible refine (call_throw IC.out 48 (X := X) (n := n) (w := w) (base := base) (pb := pb) (lp := lp) (lc := lc) (ks0 := ks) (s := s) (ks := ks) ?_ ?_ (by rw [q37]; decide) ?_).mono ?_); (first | with_reducible exact N1.out | with_reducible exact N1.out.below ((Below.refl _ _).alloc (Nat.le_refl _) _) | with_reducible exact N1.out.below (Below.refl _ _).drew | with_reducible exact N1.out.below ((Below.refl _ _).drew.alloc (Nat.le_refl _) _) | with_reducible exact N1.out.below (((Below.refl _ _).alloc (Nat.le_refl _) _).drew)); (exact (by have zG0 := G0.out; omega)); (exact (fun e9 => HN.out (by have h9 := HR1.out; rw [e9] at h9; exact h9.symm))); rintro e w2 (h2 | h2); (obtain ⟨er, h2, h3⟩ := h2; have h9 := HR1.out; simp only [h2, Pr_bad] at h9; have h5 := h3; obtain ⟨b9, rfl, -, -, -⟩ := h3; exact And.intro rfl (ft_bad h5 h9)); obtain ⟨s2, v2, ks2, r2, rfl, n2, u2, gw2⟩ := h2; have N2 := mhid n2; have h9 := HR1.out; simp only [r2, Pr_ok] at h9; have HR2 := mhid h9; clear h9 HR1; have G2 := mhid (fr2 rfl r2); simp only [Mt.cr, Mt.pg] at G2; clear n2 u2 r2 N1 gw2))
    go_ret
    exact ft_place N2.out HR2.out rfl
  by_cases q40 : kd X n s = 40
  · have h9 := HR0.out
    rw [if_neg q2, if_neg q1, if_neg q34, if_neg q35, if_neg q36, if_neg q37, if_pos q40] at h9
    clear HR0
    have HR0 := mhid h9
    clear h9
    go_enter Tryz.func115, Tryz.ntmps115
    go_wp2_with (first
      | (go_at_call 51; (with_reducible refine (now_kind hA (X := X) (n := n) (w := w) (base := base) (pb := pb) (lp := lp) (lc := lc) (ks0 := ks) (s := s) (ks := ks) ?_).mono ?_); (first | with_reducible exact N0.out | with_reducible exact N0.out.below ((Below.refl _ _).alloc (Nat.le_refl _) _) | with_reducible exact N0.out.below (Below.refl _ _).drew | with_reducible exact N0.out.below ((Below.refl _ _).drew.alloc (Nat.le_refl _) _) | with_reducible exact N0.out.below (((Below.refl _ _).alloc (Nat.le_refl _) _).drew)); rintro e w1 ⟨rfl, n1, u1⟩; have N1 := mhid n1; have HR1 := mhid HR0.out; clear n1 u1 N0 HR0)
      | (go_at_call 121; (with_reducible refine (call_throw IC.out 51 (X := X) (n := n) (w := w) (base := base) (pb := pb) (lp := lp) (lc := lc) (ks0 := ks) (s := s) (ks := ks) ?_ ?_ (by rw [q40]; decide) ?_).mono ?_); (first | with_reducible exact N1.out | with_reducible exact N1.out.below ((Below.refl _ _).alloc (Nat.le_refl _) _) | with_reducible exact N1.out.below (Below.refl _ _).drew | with_reducible exact N1.out.below ((Below.refl _ _).drew.alloc (Nat.le_refl _) _) | with_reducible exact N1.out.below (((Below.refl _ _).alloc (Nat.le_refl _) _).drew)); (exact (by have zG0 := G0.out; omega)); (exact (fun e9 => HN.out (by have h9 := HR1.out; rw [e9] at h9; exact h9.symm))); rintro e w2 (h2 | h2); (obtain ⟨er, h2, h3⟩ := h2; have h9 := HR1.out; simp only [h2, Pr_bad] at h9; have h5 := h3; obtain ⟨b9, rfl, -, -, -⟩ := h3; exact And.intro rfl (ft_bad h5 h9)); obtain ⟨s2, v2, ks2, r2, rfl, n2, u2, gw2⟩ := h2; have N2 := mhid n2; have h9 := HR1.out; simp only [r2, Pr_ok] at h9; have HR2 := mhid h9; clear h9 HR1; have G2 := mhid (fr2 rfl r2); simp only [Mt.cr, Mt.pg] at G2; clear n2 u2 r2 N1 gw2))
    go_ret
    exact ft_place N2.out HR2.out rfl
  by_cases q38 : kd X n s = 38
  · have h9 := HR0.out
    rw [if_neg q2, if_neg q1, if_neg q34, if_neg q35, if_neg q36, if_neg q37, if_neg q40, if_pos q38] at h9
    clear HR0
    have HR0 := mhid h9
    clear h9
    go_enter Tryz.func115, Tryz.ntmps115
    go_wp2_with (first
      | (go_at_call 51; (with_reducible refine (now_kind hA (X := X) (n := n) (w := w) (base := base) (pb := pb) (lp := lp) (lc := lc) (ks0 := ks) (s := s) (ks := ks) ?_).mono ?_); (first | with_reducible exact N0.out | with_reducible exact N0.out.below ((Below.refl _ _).alloc (Nat.le_refl _) _) | with_reducible exact N0.out.below (Below.refl _ _).drew | with_reducible exact N0.out.below ((Below.refl _ _).drew.alloc (Nat.le_refl _) _) | with_reducible exact N0.out.below (((Below.refl _ _).alloc (Nat.le_refl _) _).drew)); rintro e w1 ⟨rfl, n1, u1⟩; have N1 := mhid n1; have HR1 := mhid HR0.out; clear n1 u1 N0 HR0)
      | (go_at_call 122; (with_reducible refine (call_choice IC.out 49 (X := X) (n := n) (w := w) (base := base) (pb := pb) (lp := lp) (lc := lc) (ks0 := ks) (s := s) (ks := ks) ?_ ?_ (by rw [q38]; decide) ?_).mono ?_); (first | with_reducible exact N1.out | with_reducible exact N1.out.below ((Below.refl _ _).alloc (Nat.le_refl _) _) | with_reducible exact N1.out.below (Below.refl _ _).drew | with_reducible exact N1.out.below ((Below.refl _ _).drew.alloc (Nat.le_refl _) _) | with_reducible exact N1.out.below (((Below.refl _ _).alloc (Nat.le_refl _) _).drew)); (exact (by have zG0 := G0.out; omega)); (exact (fun e9 => HN.out (by have h9 := HR1.out; rw [e9] at h9; exact h9.symm))); rintro e w2 (h2 | h2); (obtain ⟨er, h2, h3⟩ := h2; have h9 := HR1.out; simp only [h2, Pr_bad] at h9; have h5 := h3; obtain ⟨b9, rfl, -, -, -⟩ := h3; exact And.intro rfl (ft_bad h5 h9)); obtain ⟨s2, v2, ks2, r2, rfl, n2, u2, gw2⟩ := h2; have N2 := mhid n2; have h9 := HR1.out; simp only [r2, Pr_ok] at h9; have HR2 := mhid h9; clear h9 HR1; have G2 := mhid (fr2 rfl r2); simp only [Mt.cr, Mt.pg] at G2; clear n2 u2 r2 N1 gw2))
    go_ret
    exact ft_place N2.out HR2.out rfl
  by_cases q39 : kd X n s = 39
  · have h9 := HR0.out
    rw [if_neg q2, if_neg q1, if_neg q34, if_neg q35, if_neg q36, if_neg q37, if_neg q40, if_neg q38, if_pos q39] at h9
    clear HR0
    have HR0 := mhid h9
    clear h9
    go_enter Tryz.func115, Tryz.ntmps115
    go_wp2_with (first
      | (go_at_call 51; (with_reducible refine (now_kind hA (X := X) (n := n) (w := w) (base := base) (pb := pb) (lp := lp) (lc := lc) (ks0 := ks) (s := s) (ks := ks) ?_).mono ?_); (first | with_reducible exact N0.out | with_reducible exact N0.out.below ((Below.refl _ _).alloc (Nat.le_refl _) _) | with_reducible exact N0.out.below (Below.refl _ _).drew | with_reducible exact N0.out.below ((Below.refl _ _).drew.alloc (Nat.le_refl _) _) | with_reducible exact N0.out.below (((Below.refl _ _).alloc (Nat.le_refl _) _).drew)); rintro e w1 ⟨rfl, n1, u1⟩; have N1 := mhid n1; have HR1 := mhid HR0.out; clear n1 u1 N0 HR0)
      | (go_at_call 122; (with_reducible refine (call_choice IC.out 50 (X := X) (n := n) (w := w) (base := base) (pb := pb) (lp := lp) (lc := lc) (ks0 := ks) (s := s) (ks := ks) ?_ ?_ (by rw [q39]; decide) ?_).mono ?_); (first | with_reducible exact N1.out | with_reducible exact N1.out.below ((Below.refl _ _).alloc (Nat.le_refl _) _) | with_reducible exact N1.out.below (Below.refl _ _).drew | with_reducible exact N1.out.below ((Below.refl _ _).drew.alloc (Nat.le_refl _) _) | with_reducible exact N1.out.below (((Below.refl _ _).alloc (Nat.le_refl _) _).drew)); (exact (by have zG0 := G0.out; omega)); (exact (fun e9 => HN.out (by have h9 := HR1.out; rw [e9] at h9; exact h9.symm))); rintro e w2 (h2 | h2); (obtain ⟨er, h2, h3⟩ := h2; have h9 := HR1.out; simp only [h2, Pr_bad] at h9; have h5 := h3; obtain ⟨b9, rfl, -, -, -⟩ := h3; exact And.intro rfl (ft_bad h5 h9)); obtain ⟨s2, v2, ks2, r2, rfl, n2, u2, gw2⟩ := h2; have N2 := mhid n2; have h9 := HR1.out; simp only [r2, Pr_ok] at h9; have HR2 := mhid h9; clear h9 HR1; have G2 := mhid (fr2 rfl r2); simp only [Mt.cr, Mt.pg] at G2; clear n2 u2 r2 N1 gw2))
    go_ret
    exact ft_place N2.out HR2.out rfl
  by_cases q50 : kd X n s = 50
  · have h9 := HR0.out
    rw [if_neg q2, if_neg q1, if_neg q34, if_neg q35, if_neg q36, if_neg q37, if_neg q40, if_neg q38, if_neg q39, if_pos q50] at h9
    clear HR0
    have HR0 := mhid h9
    clear h9
    go_enter Tryz.func115, Tryz.ntmps115
    go_wp2_with (first
      | (go_at_call 51; (with_reducible refine (now_kind hA (X := X) (n := n) (w := w) (base := base) (pb := pb) (lp := lp) (lc := lc) (ks0 := ks) (s := s) (ks := ks) ?_).mono ?_); (first | with_reducible exact N0.out | with_reducible exact N0.out.below ((Below.refl _ _).alloc (Nat.le_refl _) _) | with_reducible exact N0.out.below (Below.refl _ _).drew | with_reducible exact N0.out.below ((Below.refl _ _).drew.alloc (Nat.le_refl _) _) | with_reducible exact N0.out.below (((Below.refl _ _).alloc (Nat.le_refl _) _).drew)); rintro e w1 ⟨rfl, n1, u1⟩; have N1 := mhid n1; have HR1 := mhid HR0.out; clear n1 u1 N0 HR0)
      | (go_at_call 81; (with_reducible refine (call_brack IC.out (X := X) (n := n) (w := w) (base := base) (pb := pb) (lp := lp) (lc := lc) (ks0 := ks) (s := s) (ks := ks) ?_ ?_  ?_).mono ?_); (first | with_reducible exact N1.out | with_reducible exact N1.out.below ((Below.refl _ _).alloc (Nat.le_refl _) _) | with_reducible exact N1.out.below (Below.refl _ _).drew | with_reducible exact N1.out.below ((Below.refl _ _).drew.alloc (Nat.le_refl _) _) | with_reducible exact N1.out.below (((Below.refl _ _).alloc (Nat.le_refl _) _).drew)); (exact (by have zG0 := G0.out; omega)); (exact (fun e9 => HN.out (by have h9 := HR1.out; rw [e9] at h9; exact h9.symm))); rintro e w2 (h2 | h2); (obtain ⟨er, h2, h3⟩ := h2; have h9 := HR1.out; simp only [h2, Pr_bad] at h9; have h5 := h3; obtain ⟨b9, rfl, -, -, -⟩ := h3; exact And.intro rfl (ft_bad h5 h9)); obtain ⟨s2, v2, ks2, r2, rfl, n2, u2, gw2⟩ := h2; have N2 := mhid n2; have h9 := HR1.out; simp only [r2, Pr_ok] at h9; have HR2 := mhid h9; clear h9 HR1; have G2 := mhid (fr2 rfl r2); simp only [Mt.cr, Mt.pg] at G2; clear n2 u2 r2 N1 gw2))
    go_ret
    exact ft_place N2.out HR2.out rfl
  have h9 := HR0.out
  rw [if_neg q2, if_neg q1, if_neg q34, if_neg q35, if_neg q36, if_neg q37, if_neg q40, if_neg q38, if_neg q39, if_neg q50] at h9
  clear HR0
  have HR0 := mhid h9
  clear h9
  go_enter Tryz.func115, Tryz.ntmps115
  go_wp2_with (first
    | (go_at_call 51; (with_reducible refine (now_kind hA (X := X) (n := n) (w := w) (base := base) (pb := pb) (lp := lp) (lc := lc) (ks0 := ks) (s := s) (ks := ks) ?_).mono ?_); (first | with_reducible exact N0.out | with_reducible exact N0.out.below ((Below.refl _ _).alloc (Nat.le_refl _) _) | with_reducible exact N0.out.below (Below.refl _ _).drew | with_reducible exact N0.out.below ((Below.refl _ _).drew.alloc (Nat.le_refl _) _) | with_reducible exact N0.out.below (((Below.refl _ _).alloc (Nat.le_refl _) _).drew)); rintro e w1 ⟨rfl, n1, u1⟩; have N1 := mhid n1; have HR1 := mhid HR0.out; clear n1 u1 N0 HR0)
    | (go_at_call 58; (with_reducible refine (refusal_any N1.out.s.p hA.hn hA.hz hA.hr).mono ?_); rintro e w9 ⟨b9, h91, rfl, h93, h94⟩))
  exact ⟨rfl, ft_bad ⟨b9, rfl, Nat.le_trans N1.out.s.p.sz h91, h93, N1.out.k.trans (KG.of_below h94 N1.out.s.p.sz)⟩ HR1.out⟩
set_option maxRecDepth 100000 in
set_option maxHeartbeats 2000000 in
theorem ct_member {X : Nat → Tk} {n f : Nat} (hA : TkA X n) (ih : ∀ g, g ≤ f → CT X n g) {w : World} {base pb : Nat} {lp : Option Addr} {lc : Nat} {s : St} {ks : List Value} (h : PS X n w base pb lp lc s ks) (hm : s.md.length + 0 ≤ s.nx) (hne : P X n (f + 1) (.member) s ≠ .out) : Calls Tryz.prog 77 #[.pointer (some ⟨pb, 0, none⟩)] w (Ft base pb lp lc n X w ks false (P X n (f + 1) (.member) s)) := by
  generalize hR : P X n (f + 1) (.member) s = R at hne ⊢
  rw [P_member] at hR
  have HR0 := mhid hR
  have HN := mhid hne
  have N0 := mhid (Now.start h)
  have IC := mhid (ih f (Nat.le_refl _))
  have G0 := mhid (And.intro hm (And.intro h.p.nx (And.intro h.p.dp hA.hn)))
  have IH := mhid ih
  clear hR hne h ih hm
  by_cases q18 : kd X n s = 18
  · have h9 := HR0.out
    rw [if_pos q18] at h9
    clear HR0
    have HR0 := mhid h9
    clear h9
    go_enter Tryz.func77, Tryz.ntmps77
    go_wp2_with (first
      | (go_at_call 51; (with_reducible refine (now_kind hA (X := X) (n := n) (w := w) (base := base) (pb := pb) (lp := lp) (lc := lc) (ks0 := ks) (s := s) (ks := ks) ?_).mono ?_); (first | with_reducible exact N0.out | with_reducible exact N0.out.below ((Below.refl _ _).alloc (Nat.le_refl _) _) | with_reducible exact N0.out.below (Below.refl _ _).drew | with_reducible exact N0.out.below ((Below.refl _ _).drew.alloc (Nat.le_refl _) _) | with_reducible exact N0.out.below (((Below.refl _ _).alloc (Nat.le_refl _) _).drew)); rintro e w1 ⟨rfl, n1, u1⟩; have N1 := mhid n1; have HR1 := mhid HR0.out; clear n1 u1 N0 HR0)
      | (go_at_call 94; (with_reducible refine (call_vari IC.out (X := X) (n := n) (w := w) (base := base) (pb := pb) (lp := lp) (lc := lc) (ks0 := ks) (s := s) (ks := ks) ?_ ?_  ?_).mono ?_); (first | with_reducible exact N1.out | with_reducible exact N1.out.below ((Below.refl _ _).alloc (Nat.le_refl _) _) | with_reducible exact N1.out.below (Below.refl _ _).drew | with_reducible exact N1.out.below ((Below.refl _ _).drew.alloc (Nat.le_refl _) _) | with_reducible exact N1.out.below (((Below.refl _ _).alloc (Nat.le_refl _) _).drew)); (exact (by have zG0 := G0.out; omega)); (exact (fun e9 => HN.out (by have h9 := HR1.out; rw [e9] at h9; exact h9.symm))); rintro e w2 (h2 | h2); (obtain ⟨er, h2, h3⟩ := h2; have h9 := HR1.out; simp only [h2, Pr_bad] at h9; have h5 := h3; obtain ⟨b9, rfl, -, -, -⟩ := h3; exact And.intro rfl (ft_bad h5 h9)); obtain ⟨s2, v2, ks2, r2, rfl, n2, u2, gw2⟩ := h2; have N2 := mhid n2; have h9 := HR1.out; simp only [r2, Pr_ok] at h9; have HR2 := mhid h9; clear h9 HR1; have G2 := mhid (fr2 rfl r2); simp only [Mt.cr, Mt.pg] at G2; clear n2 u2 r2 N1 gw2))
    go_ret
    exact ft_place N2.out HR2.out rfl
  by_cases q19 : kd X n s = 19
  · have h9 := HR0.out
    rw [if_neg q18, if_pos q19] at h9
    clear HR0
    have HR0 := mhid h9
    clear h9
    go_enter Tryz.func77, Tryz.ntmps77
    go_wp2_with (first
      | (go_at_call 51; (with_reducible refine (now_kind hA (X := X) (n := n) (w := w) (base := base) (pb := pb) (lp := lp) (lc := lc) (ks0 := ks) (s := s) (ks := ks) ?_).mono ?_); (first | with_reducible exact N0.out | with_reducible exact N0.out.below ((Below.refl _ _).alloc (Nat.le_refl _) _) | with_reducible exact N0.out.below (Below.refl _ _).drew | with_reducible exact N0.out.below ((Below.refl _ _).drew.alloc (Nat.le_refl _) _) | with_reducible exact N0.out.below (((Below.refl _ _).alloc (Nat.le_refl _) _).drew)); rintro e w1 ⟨rfl, n1, u1⟩; have N1 := mhid n1; have HR1 := mhid HR0.out; clear n1 u1 N0 HR0)
      | (go_at_call 95; (with_reducible refine (call_handler IC.out (X := X) (n := n) (w := w) (base := base) (pb := pb) (lp := lp) (lc := lc) (ks0 := ks) (s := s) (ks := ks) ?_ ?_  ?_).mono ?_); (first | with_reducible exact N1.out | with_reducible exact N1.out.below ((Below.refl _ _).alloc (Nat.le_refl _) _) | with_reducible exact N1.out.below (Below.refl _ _).drew | with_reducible exact N1.out.below ((Below.refl _ _).drew.alloc (Nat.le_refl _) _) | with_reducible exact N1.out.below (((Below.refl _ _).alloc (Nat.le_refl _) _).drew)); (exact (by have zG0 := G0.out; omega)); (exact (fun e9 => HN.out (by have h9 := HR1.out; rw [e9] at h9; exact h9.symm))); rintro e w2 (h2 | h2); (obtain ⟨er, h2, h3⟩ := h2; have h9 := HR1.out; simp only [h2, Pr_bad] at h9; have h5 := h3; obtain ⟨b9, rfl, -, -, -⟩ := h3; exact And.intro rfl (ft_bad h5 h9)); obtain ⟨s2, v2, ks2, r2, rfl, n2, u2, gw2⟩ := h2; have N2 := mhid n2; have h9 := HR1.out; simp only [r2, Pr_ok] at h9; have HR2 := mhid h9; clear h9 HR1; have G2 := mhid (fr2 rfl r2); simp only [Mt.cr, Mt.pg] at G2; clear n2 u2 r2 N1 gw2))
    go_ret
    exact ft_place N2.out HR2.out rfl
  have h9 := HR0.out
  rw [if_neg q18, if_neg q19] at h9
  clear HR0
  have HR0 := mhid h9
  clear h9
  go_enter Tryz.func77, Tryz.ntmps77
  go_wp2_with (first
    | (go_at_call 51; (with_reducible refine (now_kind hA (X := X) (n := n) (w := w) (base := base) (pb := pb) (lp := lp) (lc := lc) (ks0 := ks) (s := s) (ks := ks) ?_).mono ?_); (first | with_reducible exact N0.out | with_reducible exact N0.out.below ((Below.refl _ _).alloc (Nat.le_refl _) _) | with_reducible exact N0.out.below (Below.refl _ _).drew | with_reducible exact N0.out.below ((Below.refl _ _).drew.alloc (Nat.le_refl _) _) | with_reducible exact N0.out.below (((Below.refl _ _).alloc (Nat.le_refl _) _).drew)); rintro e w1 ⟨rfl, n1, u1⟩; have N1 := mhid n1; have HR1 := mhid HR0.out; clear n1 u1 N0 HR0)
    | (go_at_call 58; (with_reducible refine (refusal_any N1.out.s.p hA.hn hA.hz hA.hr).mono ?_); rintro e w9 ⟨b9, h91, rfl, h93, h94⟩))
  exact ⟨rfl, ft_bad ⟨b9, rfl, Nat.le_trans N1.out.s.p.sz h91, h93, N1.out.k.trans (KG.of_below h94 N1.out.s.p.sz)⟩ HR1.out⟩
end Go.Proofs.YtmekcccmnkgodaaGreatDoor
namespace Go.Proofs.YtmekcccmnkgodaaGreatDoor
open Go.ChangeShapes Go.WideShapes Go.ChangeAt Go.RowKit
set_option linter.unusedVariables false
set_option linter.unusedSimpArgs false
set_option maxRecDepth 100000 in
set_option maxHeartbeats 2000000 in
theorem ct_item {X : Nat → Tk} {n f : Nat} (hA : TkA X n) (ih : ∀ g, g ≤ f → CT X n g) {w : World} {base pb : Nat} {lp : Option Addr} {lc : Nat} {s : St} {ks : List Value} (h : PS X n w base pb lp lc s ks) (hm : s.md.length + 0 ≤ s.nx) (hne : P X n (f + 1) (.item) s ≠ .out) : Calls Tryz.prog 35 #[.pointer (some ⟨pb, 0, none⟩)] w (Ft base pb lp lc n X w ks false (P X n (f + 1) (.item) s)) := by
  generalize hR : P X n (f + 1) (.item) s = R at hne ⊢
  rw [P_item] at hR
  have HR0 := mhid hR
  have HN := mhid hne
  have N0 := mhid (Now.start h)
  have IC := mhid (ih f (Nat.le_refl _))
  have G0 := mhid (And.intro hm (And.intro h.p.nx (And.intro h.p.dp hA.hn)))
  have IH := mhid ih
  clear hR hne h ih hm
  by_cases q0 : 10 ≤ kd X n s ∧ kd X n s ≤ 14
  · have h9 := HR0.out
    rw [if_pos q0] at h9
    clear HR0
    have HR0 := mhid h9
    clear h9
    have hnz : kd X n s ≠ 0 := by omega
    have q5 : kd X n s = 10 ∨ kd X n s = 11 ∨ kd X n s = 12 ∨ kd X n s = 13 ∨ kd X n s = 14 := by omega
    have HNZ := mhid hnz
    clear q0 hnz
    rcases q5 with q | q | q | q | q
    all_goals
      go_enter Tryz.func35, Tryz.ntmps35
      go_wp2_with (first
        | (go_at_call 51; (with_reducible refine (now_kind hA (X := X) (n := n) (w := w) (base := base) (pb := pb) (lp := lp) (lc := lc) (ks0 := ks) (s := s) (ks := ks) ?_).mono ?_); (first | with_reducible exact N0.out | with_reducible exact N0.out.below ((Below.refl _ _).alloc (Nat.le_refl _) _) | with_reducible exact N0.out.below (Below.refl _ _).drew | with_reducible exact N0.out.below ((Below.refl _ _).drew.alloc (Nat.le_refl _) _) | with_reducible exact N0.out.below (((Below.refl _ _).alloc (Nat.le_refl _) _).drew)); rintro e w1 ⟨rfl, n1, u1⟩; have N1 := mhid n1; have HR1 := mhid HR0.out; clear n1 u1 N0 HR0)
        | (go_at_call 52; (with_reducible refine (call_setting IC.out (X := X) (n := n) (w := w) (base := base) (pb := pb) (lp := lp) (lc := lc) (ks0 := ks) (s := s) (ks := ks) ?_ ?_ HNZ.out ?_).mono ?_); (first | with_reducible exact N1.out | with_reducible exact N1.out.below ((Below.refl _ _).alloc (Nat.le_refl _) _) | with_reducible exact N1.out.below (Below.refl _ _).drew | with_reducible exact N1.out.below ((Below.refl _ _).drew.alloc (Nat.le_refl _) _) | with_reducible exact N1.out.below (((Below.refl _ _).alloc (Nat.le_refl _) _).drew)); (exact (by have zG0 := G0.out; omega)); (exact (fun e9 => HN.out (by have h9 := HR1.out; rw [e9] at h9; exact h9.symm))); rintro e w2 (h2 | h2); (obtain ⟨er, h2, h3⟩ := h2; have h9 := HR1.out; simp only [h2, Pr_bad] at h9; have h5 := h3; obtain ⟨b9, rfl, -, -, -⟩ := h3; exact And.intro rfl (ft_bad h5 h9)); obtain ⟨s2, v2, ks2, r2, rfl, n2, u2, gw2⟩ := h2; have N2 := mhid n2; have h9 := HR1.out; simp only [r2, Pr_ok] at h9; have HR2 := mhid h9; clear h9 HR1; have G2 := mhid (fr2 rfl r2); simp only [Mt.cr, Mt.pg] at G2; clear n2 u2 r2 N1 gw2))
      go_ret
      exact ft_place N2.out HR2.out rfl
  have n10 : ¬ kd X n s = 10 := by omega
  have n11 : ¬ kd X n s = 11 := by omega
  have n12 : ¬ kd X n s = 12 := by omega
  have n13 : ¬ kd X n s = 13 := by omega
  have n14 : ¬ kd X n s = 14 := by omega
  by_cases q15 : kd X n s = 15
  · have h9 := HR0.out
    rw [if_neg q0, if_pos q15] at h9
    clear HR0
    have HR0 := mhid h9
    clear h9
    clear q0
    go_enter Tryz.func35, Tryz.ntmps35
    go_wp2_with (first
      | (go_at_call 51; (with_reducible refine (now_kind hA (X := X) (n := n) (w := w) (base := base) (pb := pb) (lp := lp) (lc := lc) (ks0 := ks) (s := s) (ks := ks) ?_).mono ?_); (first | with_reducible exact N0.out | with_reducible exact N0.out.below ((Below.refl _ _).alloc (Nat.le_refl _) _) | with_reducible exact N0.out.below (Below.refl _ _).drew | with_reducible exact N0.out.below ((Below.refl _ _).drew.alloc (Nat.le_refl _) _) | with_reducible exact N0.out.below (((Below.refl _ _).alloc (Nat.le_refl _) _).drew)); rintro e w1 ⟨rfl, n1, u1⟩; have N1 := mhid n1; have HR1 := mhid HR0.out; clear n1 u1 N0 HR0)
      | (go_at_call 53; (with_reducible refine (call_constant IC.out (X := X) (n := n) (w := w) (base := base) (pb := pb) (lp := lp) (lc := lc) (ks0 := ks) (s := s) (ks := ks) ?_ ?_  ?_).mono ?_); (first | with_reducible exact N1.out | with_reducible exact N1.out.below ((Below.refl _ _).alloc (Nat.le_refl _) _) | with_reducible exact N1.out.below (Below.refl _ _).drew | with_reducible exact N1.out.below ((Below.refl _ _).drew.alloc (Nat.le_refl _) _) | with_reducible exact N1.out.below (((Below.refl _ _).alloc (Nat.le_refl _) _).drew)); (exact (by have zG0 := G0.out; omega)); (exact (fun e9 => HN.out (by have h9 := HR1.out; rw [e9] at h9; exact h9.symm))); rintro e w2 (h2 | h2); (obtain ⟨er, h2, h3⟩ := h2; have h9 := HR1.out; simp only [h2, Pr_bad] at h9; have h5 := h3; obtain ⟨b9, rfl, -, -, -⟩ := h3; exact And.intro rfl (ft_bad h5 h9)); obtain ⟨s2, v2, ks2, r2, rfl, n2, u2, gw2⟩ := h2; have N2 := mhid n2; have h9 := HR1.out; simp only [r2, Pr_ok] at h9; have HR2 := mhid h9; clear h9 HR1; have G2 := mhid (fr2 rfl r2); simp only [Mt.cr, Mt.pg] at G2; clear n2 u2 r2 N1 gw2))
    go_ret
    exact ft_place N2.out HR2.out rfl
  by_cases q16 : kd X n s = 16
  · have h9 := HR0.out
    rw [if_neg q0, if_neg q15, if_pos q16] at h9
    clear HR0
    have HR0 := mhid h9
    clear h9
    clear q0
    go_enter Tryz.func35, Tryz.ntmps35
    go_wp2_with (first
      | (go_at_call 51; (with_reducible refine (now_kind hA (X := X) (n := n) (w := w) (base := base) (pb := pb) (lp := lp) (lc := lc) (ks0 := ks) (s := s) (ks := ks) ?_).mono ?_); (first | with_reducible exact N0.out | with_reducible exact N0.out.below ((Below.refl _ _).alloc (Nat.le_refl _) _) | with_reducible exact N0.out.below (Below.refl _ _).drew | with_reducible exact N0.out.below ((Below.refl _ _).drew.alloc (Nat.le_refl _) _) | with_reducible exact N0.out.below (((Below.refl _ _).alloc (Nat.le_refl _) _).drew)); rintro e w1 ⟨rfl, n1, u1⟩; have N1 := mhid n1; have HR1 := mhid HR0.out; clear n1 u1 N0 HR0)
      | (go_at_call 54; (with_reducible refine (call_kinds IC.out (X := X) (n := n) (w := w) (base := base) (pb := pb) (lp := lp) (lc := lc) (ks0 := ks) (s := s) (ks := ks) ?_ ?_  ?_).mono ?_); (first | with_reducible exact N1.out | with_reducible exact N1.out.below ((Below.refl _ _).alloc (Nat.le_refl _) _) | with_reducible exact N1.out.below (Below.refl _ _).drew | with_reducible exact N1.out.below ((Below.refl _ _).drew.alloc (Nat.le_refl _) _) | with_reducible exact N1.out.below (((Below.refl _ _).alloc (Nat.le_refl _) _).drew)); (exact (by have zG0 := G0.out; omega)); (exact (fun e9 => HN.out (by have h9 := HR1.out; rw [e9] at h9; exact h9.symm))); rintro e w2 (h2 | h2); (obtain ⟨er, h2, h3⟩ := h2; have h9 := HR1.out; simp only [h2, Pr_bad] at h9; have h5 := h3; obtain ⟨b9, rfl, -, -, -⟩ := h3; exact And.intro rfl (ft_bad h5 h9)); obtain ⟨s2, v2, ks2, r2, rfl, n2, u2, gw2⟩ := h2; have N2 := mhid n2; have h9 := HR1.out; simp only [r2, Pr_ok] at h9; have HR2 := mhid h9; clear h9 HR1; have G2 := mhid (fr2 rfl r2); simp only [Mt.cr, Mt.pg] at G2; clear n2 u2 r2 N1 gw2))
    go_ret
    exact ft_place N2.out HR2.out rfl
  by_cases q17 : kd X n s = 17
  · have h9 := HR0.out
    rw [if_neg q0, if_neg q15, if_neg q16, if_pos q17] at h9
    clear HR0
    have HR0 := mhid h9
    clear h9
    clear q0
    go_enter Tryz.func35, Tryz.ntmps35
    go_wp2_with (first
      | (go_at_call 51; (with_reducible refine (now_kind hA (X := X) (n := n) (w := w) (base := base) (pb := pb) (lp := lp) (lc := lc) (ks0 := ks) (s := s) (ks := ks) ?_).mono ?_); (first | with_reducible exact N0.out | with_reducible exact N0.out.below ((Below.refl _ _).alloc (Nat.le_refl _) _) | with_reducible exact N0.out.below (Below.refl _ _).drew | with_reducible exact N0.out.below ((Below.refl _ _).drew.alloc (Nat.le_refl _) _) | with_reducible exact N0.out.below (((Below.refl _ _).alloc (Nat.le_refl _) _).drew)); rintro e w1 ⟨rfl, n1, u1⟩; have N1 := mhid n1; have HR1 := mhid HR0.out; clear n1 u1 N0 HR0)
      | (go_at_call 55; (with_reducible refine (call_ptype IC.out (X := X) (n := n) (w := w) (base := base) (pb := pb) (lp := lp) (lc := lc) (ks0 := ks) (s := s) (ks := ks) ?_ ?_  ?_).mono ?_); (first | with_reducible exact N1.out | with_reducible exact N1.out.below ((Below.refl _ _).alloc (Nat.le_refl _) _) | with_reducible exact N1.out.below (Below.refl _ _).drew | with_reducible exact N1.out.below ((Below.refl _ _).drew.alloc (Nat.le_refl _) _) | with_reducible exact N1.out.below (((Below.refl _ _).alloc (Nat.le_refl _) _).drew)); (exact (by have zG0 := G0.out; omega)); (exact (fun e9 => HN.out (by have h9 := HR1.out; rw [e9] at h9; exact h9.symm))); rintro e w2 (h2 | h2); (obtain ⟨er, h2, h3⟩ := h2; have h9 := HR1.out; simp only [h2, Pr_bad] at h9; have h5 := h3; obtain ⟨b9, rfl, -, -, -⟩ := h3; exact And.intro rfl (ft_bad h5 h9)); obtain ⟨s2, v2, ks2, r2, rfl, n2, u2, gw2⟩ := h2; have N2 := mhid n2; have h9 := HR1.out; simp only [r2, Pr_ok] at h9; have HR2 := mhid h9; clear h9 HR1; have G2 := mhid (fr2 rfl r2); simp only [Mt.cr, Mt.pg] at G2; clear n2 u2 r2 N1 gw2))
    go_ret
    exact ft_place N2.out HR2.out rfl
  by_cases q20 : kd X n s = 20
  · have h9 := HR0.out
    rw [if_neg q0, if_neg q15, if_neg q16, if_neg q17, if_pos q20] at h9
    clear HR0
    have HR0 := mhid h9
    clear h9
    clear q0
    go_enter Tryz.func35, Tryz.ntmps35
    go_wp2_with (first
      | (go_at_call 51; (with_reducible refine (now_kind hA (X := X) (n := n) (w := w) (base := base) (pb := pb) (lp := lp) (lc := lc) (ks0 := ks) (s := s) (ks := ks) ?_).mono ?_); (first | with_reducible exact N0.out | with_reducible exact N0.out.below ((Below.refl _ _).alloc (Nat.le_refl _) _) | with_reducible exact N0.out.below (Below.refl _ _).drew | with_reducible exact N0.out.below ((Below.refl _ _).drew.alloc (Nat.le_refl _) _) | with_reducible exact N0.out.below (((Below.refl _ _).alloc (Nat.le_refl _) _).drew)); rintro e w1 ⟨rfl, n1, u1⟩; have N1 := mhid n1; have HR1 := mhid HR0.out; clear n1 u1 N0 HR0)
      | (go_at_call 56; (with_reducible refine (call_place IC.out (X := X) (n := n) (w := w) (base := base) (pb := pb) (lp := lp) (lc := lc) (ks0 := ks) (s := s) (ks := ks) ?_ ?_  ?_).mono ?_); (first | with_reducible exact N1.out | with_reducible exact N1.out.below ((Below.refl _ _).alloc (Nat.le_refl _) _) | with_reducible exact N1.out.below (Below.refl _ _).drew | with_reducible exact N1.out.below ((Below.refl _ _).drew.alloc (Nat.le_refl _) _) | with_reducible exact N1.out.below (((Below.refl _ _).alloc (Nat.le_refl _) _).drew)); (exact (by have zG0 := G0.out; omega)); (exact (fun e9 => HN.out (by have h9 := HR1.out; rw [e9] at h9; exact h9.symm))); rintro e w2 (h2 | h2); (obtain ⟨er, h2, h3⟩ := h2; have h9 := HR1.out; simp only [h2, Pr_bad] at h9; have h5 := h3; obtain ⟨b9, rfl, -, -, -⟩ := h3; exact And.intro rfl (ft_bad h5 h9)); obtain ⟨s2, v2, ks2, r2, rfl, n2, u2, gw2⟩ := h2; have N2 := mhid n2; have h9 := HR1.out; simp only [r2, Pr_ok] at h9; have HR2 := mhid h9; clear h9 HR1; have G2 := mhid (fr2 rfl r2); simp only [Mt.cr, Mt.pg] at G2; clear n2 u2 r2 N1 gw2))
    go_ret
    exact ft_place N2.out HR2.out rfl
  by_cases q21 : kd X n s = 21
  · have h9 := HR0.out
    rw [if_neg q0, if_neg q15, if_neg q16, if_neg q17, if_neg q20, if_pos q21] at h9
    clear HR0
    have HR0 := mhid h9
    clear h9
    clear q0
    go_enter Tryz.func35, Tryz.ntmps35
    go_wp2_with (first
      | (go_at_call 51; (with_reducible refine (now_kind hA (X := X) (n := n) (w := w) (base := base) (pb := pb) (lp := lp) (lc := lc) (ks0 := ks) (s := s) (ks := ks) ?_).mono ?_); (first | with_reducible exact N0.out | with_reducible exact N0.out.below ((Below.refl _ _).alloc (Nat.le_refl _) _) | with_reducible exact N0.out.below (Below.refl _ _).drew | with_reducible exact N0.out.below ((Below.refl _ _).drew.alloc (Nat.le_refl _) _) | with_reducible exact N0.out.below (((Below.refl _ _).alloc (Nat.le_refl _) _).drew)); rintro e w1 ⟨rfl, n1, u1⟩; have N1 := mhid n1; have HR1 := mhid HR0.out; clear n1 u1 N0 HR0)
      | (go_at_call 57; (with_reducible refine (call_start IC.out (X := X) (n := n) (w := w) (base := base) (pb := pb) (lp := lp) (lc := lc) (ks0 := ks) (s := s) (ks := ks) ?_ ?_  ?_).mono ?_); (first | with_reducible exact N1.out | with_reducible exact N1.out.below ((Below.refl _ _).alloc (Nat.le_refl _) _) | with_reducible exact N1.out.below (Below.refl _ _).drew | with_reducible exact N1.out.below ((Below.refl _ _).drew.alloc (Nat.le_refl _) _) | with_reducible exact N1.out.below (((Below.refl _ _).alloc (Nat.le_refl _) _).drew)); (exact (by have zG0 := G0.out; omega)); (exact (fun e9 => HN.out (by have h9 := HR1.out; rw [e9] at h9; exact h9.symm))); rintro e w2 (h2 | h2); (obtain ⟨er, h2, h3⟩ := h2; have h9 := HR1.out; simp only [h2, Pr_bad] at h9; have h5 := h3; obtain ⟨b9, rfl, -, -, -⟩ := h3; exact And.intro rfl (ft_bad h5 h9)); obtain ⟨s2, v2, ks2, r2, rfl, n2, u2, gw2⟩ := h2; have N2 := mhid n2; have h9 := HR1.out; simp only [r2, Pr_ok] at h9; have HR2 := mhid h9; clear h9 HR1; have G2 := mhid (fr2 rfl r2); simp only [Mt.cr, Mt.pg] at G2; clear n2 u2 r2 N1 gw2))
    go_ret
    exact ft_place N2.out HR2.out rfl
  have h9 := HR0.out
  rw [if_neg q0, if_neg q15, if_neg q16, if_neg q17, if_neg q20, if_neg q21] at h9
  clear HR0
  have HR0 := mhid h9
  clear h9
  clear q0
  go_enter Tryz.func35, Tryz.ntmps35
  go_wp2_with (first
    | (go_at_call 51; (with_reducible refine (now_kind hA (X := X) (n := n) (w := w) (base := base) (pb := pb) (lp := lp) (lc := lc) (ks0 := ks) (s := s) (ks := ks) ?_).mono ?_); (first | with_reducible exact N0.out | with_reducible exact N0.out.below ((Below.refl _ _).alloc (Nat.le_refl _) _) | with_reducible exact N0.out.below (Below.refl _ _).drew | with_reducible exact N0.out.below ((Below.refl _ _).drew.alloc (Nat.le_refl _) _) | with_reducible exact N0.out.below (((Below.refl _ _).alloc (Nat.le_refl _) _).drew)); rintro e w1 ⟨rfl, n1, u1⟩; have N1 := mhid n1; have HR1 := mhid HR0.out; clear n1 u1 N0 HR0)
    | (go_at_call 58; (with_reducible refine (refusal_any N1.out.s.p hA.hn hA.hz hA.hr).mono ?_); rintro e w9 ⟨b9, h91, rfl, h93, h94⟩))
  exact ⟨rfl, ft_bad ⟨b9, rfl, Nat.le_trans N1.out.s.p.sz h91, h93, N1.out.k.trans (KG.of_below h94 N1.out.s.p.sz)⟩ HR1.out⟩
set_option maxRecDepth 100000 in
set_option maxHeartbeats 2000000 in
theorem ct_named {X : Nat → Tk} {n f : Nat} (hA : TkA X n) (ih : ∀ g, g ≤ f → CT X n g) {w : World} {base pb : Nat} {lp : Option Addr} {lc : Nat} {s : St} {ks : List Value} (h : PS X n w base pb lp lc s ks) (hm : s.md.length + 0 ≤ s.nx) (hne : P X n (f + 1) (.named) s ≠ .out) : Calls Tryz.prog 120 #[.pointer (some ⟨pb, 0, none⟩)] w (Ft base pb lp lc n X w ks false (P X n (f + 1) (.named) s)) := by
  generalize hR : P X n (f + 1) (.named) s = R at hne ⊢
  rw [P_named] at hR
  have HR0 := mhid hR
  have HN := mhid hne
  have N0 := mhid (Now.start h)
  have IC := mhid (ih f (Nat.le_refl _))
  have G0 := mhid (And.intro hm (And.intro h.p.nx (And.intro h.p.dp hA.hn)))
  have IH := mhid ih
  clear hR hne h ih hm
  go_enter Tryz.func120, Tryz.ntmps120
  go_upto_region 4 with (first
    | (go_at_call 73; (with_reducible refine (now_take hA (X := X) (n := n) (w := w) (base := base) (pb := pb) (lp := lp) (lc := lc) (ks0 := ks) (s := s) (ks := ks) ?_ (1) (by decide)).mono ?_); (first | with_reducible exact N0.out | with_reducible exact N0.out.below ((Below.refl _ _).alloc (Nat.le_refl _) _) | with_reducible exact N0.out.below (Below.refl _ _).drew | with_reducible exact N0.out.below ((Below.refl _ _).drew.alloc (Nat.le_refl _) _) | with_reducible exact N0.out.below (((Below.refl _ _).alloc (Nat.le_refl _) _).drew)); rintro e w1 (h1 | h1); (obtain ⟨er, h2, h3⟩ := h1; have h9 := HR0.out; simp only [h2, Pr_bad] at h9; have h5 := h3; obtain ⟨b9, rfl, -, -, -⟩ := h3; exact And.intro rfl (ft_bad h5 h9)); obtain ⟨s1, t1, r1, rfl, n1, u1⟩ := h1; have N1 := mhid n1; have h9 := HR0.out; simp only [r1, Pr_ok] at h9; have HR1 := mhid h9; clear h9 HR0; have G1 := mhid (take_nx r1); clear n1 u1 r1 N0)
    | (go_at_call 79; (with_reducible refine (call_index IC.out (X := X) (n := n) (w := w) (base := base) (pb := pb) (lp := lp) (lc := lc) (ks0 := ks) (s := s1) (ks := ks) ?_ ?_ ?_).mono ?_); (first | with_reducible exact N1.out | with_reducible exact N1.out.below ((Below.refl _ _).alloc (Nat.le_refl _) _) | with_reducible exact N1.out.below (Below.refl _ _).drew | with_reducible exact N1.out.below ((Below.refl _ _).drew.alloc (Nat.le_refl _) _) | with_reducible exact N1.out.below (((Below.refl _ _).alloc (Nat.le_refl _) _).drew)); (exact (by have zG0 := G0.out; have zG1 := G1.out; omega)); (exact (fun e9 => HN.out (by have h9 := HR1.out; rw [e9] at h9; exact h9.symm))); rintro e w2 (h2 | h2); (obtain ⟨er, h2, h3⟩ := h2; have h9 := HR1.out; simp only [h2, Pr_bad] at h9; have h5 := h3; obtain ⟨b9, rfl, -, -, -⟩ := h3; exact And.intro rfl (ft_bad h5 h9)); obtain ⟨s2, v2, ks2, p2, c2, r2, rfl, o2, f2, n2, u2, gw2⟩ := h2; have bb2 : w2.heap[w1.heap.size]? = some (.cells #[.int .i64 t1.kind, .string ⟨t1.text.toArray⟩, .int .u64 (t1.num : Int), .int .i64 t1.line, .int .i64 t1.col] 40 (0, 0)) := u2.box (by first | with_reducible exact World.alloc_heap_new _ _ | with_reducible exact BB.out | exact (show _ = _ from BB.out) | exact (Below.heap_alloc _ _ _ ((Array.getElem?_eq_some_iff.1 BB.out).1)).trans BB.out) (by decide) (by decide); (try clear x0 x1 x2 x3 x4); obtain ⟨x0, x1, x2, x3, x4⟩ := cell_box5 bb2; (try clear BB); have BB := mhid bb2; clear bb2; have N2 := mhid n2; have h9 := HR1.out; simp only [r2, Pr_ok] at h9; have HR2 := mhid h9; clear h9 HR1; have G2 := mhid (And.intro (ln X n _ _ _ _ _ rfl r2) (fr2 rfl r2)); simp only [Mt.cr, Mt.pg, Mt.len0] at G2; have OO := mhid o2; have FF := mhid f2; clear n2 u2 r2 N1 o2 f2 gw2))
  by_cases hl : v2 = []
  · have HL := mhid hl
    have dl : decide (0 < v2.length) = false := decide_eq_false (by rw [hl]; simp)
    have dl2 : decide ((0 : Int) < (v2.length : Int)) = false := decide_eq_false (by rw [hl]; simp)
    have h9 := HR2.out
    rw [if_pos hl] at h9
    clear HR2 hl
    have HR2 := mhid h9
    clear h9
    go_wp2_with (first
      | (go_at_call 36; (with_reducible refine (call_add (X := X) (n := n) (w := w) (base := base) (pb := pb) (lp := lp) (lc := lc) (ks0 := ks) (s := s2) (ks := ks2) ?_ t1 41 t1.text 0 0 rfl 0 v2 (.slice p2 v2.length c2) OO.out FF.out ?_).mono ?_); (first | with_reducible exact N2.out | with_reducible exact N2.out.below ((Below.refl _ _).alloc (Nat.le_refl _) _) | with_reducible exact N2.out.below (Below.refl _ _).drew | with_reducible exact N2.out.below ((Below.refl _ _).drew.alloc (Nat.le_refl _) _) | with_reducible exact N2.out.below (((Below.refl _ _).alloc (Nat.le_refl _) _).drew)); (exact (by have zG0 := G0.out; have zG1 := G1.out; have zG2 := G2.out; omega)); rintro e w3 ⟨rfl, ks3, n3, u3⟩; have bb3 : w3.heap[w1.heap.size]? = some (.cells #[.int .i64 t1.kind, .string ⟨t1.text.toArray⟩, .int .u64 (t1.num : Int), .int .i64 t1.line, .int .i64 t1.col] 40 (0, 0)) := u3.box (by first | with_reducible exact World.alloc_heap_new _ _ | with_reducible exact BB.out | exact (show _ = _ from BB.out) | exact (Below.heap_alloc _ _ _ ((Array.getElem?_eq_some_iff.1 BB.out).1)).trans BB.out) (by decide) (by decide); (try clear x0 x1 x2 x3 x4); obtain ⟨x0, x1, x2, x3, x4⟩ := cell_box5 bb3; (try clear BB); have BB := mhid bb3; clear bb3; have N3 := mhid n3; have HR3 := mhid HR2.out; clear n3 u3 N2))
    go_ret
    exact ft_place N3.out HR3.out rfl
  · have HL := mhid hl
    have dl : decide (0 < v2.length) = true := decide_eq_true (List.length_pos_iff.2 hl)
    have dl2 : decide ((0 : Int) < (v2.length : Int)) = true := decide_eq_true (by have := List.length_pos_iff.2 hl; omega)
    have h9 := HR2.out
    rw [if_neg hl] at h9
    clear HR2 hl
    have HR2 := mhid h9
    clear h9
    go_wp2_with (first
      | (go_at_call 36; (with_reducible refine (call_add (X := X) (n := n) (w := w) (base := base) (pb := pb) (lp := lp) (lc := lc) (ks0 := ks) (s := s2) (ks := ks2) ?_ t1 42 t1.text 0 0 rfl 0 v2 (.slice p2 v2.length c2) OO.out FF.out ?_).mono ?_); (first | with_reducible exact N2.out | with_reducible exact N2.out.below ((Below.refl _ _).alloc (Nat.le_refl _) _) | with_reducible exact N2.out.below (Below.refl _ _).drew | with_reducible exact N2.out.below ((Below.refl _ _).drew.alloc (Nat.le_refl _) _) | with_reducible exact N2.out.below (((Below.refl _ _).alloc (Nat.le_refl _) _).drew)); (exact (by have zG0 := G0.out; have zG1 := G1.out; have zG2 := G2.out; omega)); rintro e w3 ⟨rfl, ks3, n3, u3⟩; have bb3 : w3.heap[w1.heap.size]? = some (.cells #[.int .i64 t1.kind, .string ⟨t1.text.toArray⟩, .int .u64 (t1.num : Int), .int .i64 t1.line, .int .i64 t1.col] 40 (0, 0)) := u3.box (by first | with_reducible exact World.alloc_heap_new _ _ | with_reducible exact BB.out | exact (show _ = _ from BB.out) | exact (Below.heap_alloc _ _ _ ((Array.getElem?_eq_some_iff.1 BB.out).1)).trans BB.out) (by decide) (by decide); (try clear x0 x1 x2 x3 x4); obtain ⟨x0, x1, x2, x3, x4⟩ := cell_box5 bb3; (try clear BB); have BB := mhid bb3; clear bb3; have N3 := mhid n3; have HR3 := mhid HR2.out; clear n3 u3 N2))
    go_ret
    exact ft_place N3.out HR3.out rfl
end Go.Proofs.YtmekcccmnkgodaaGreatDoor
