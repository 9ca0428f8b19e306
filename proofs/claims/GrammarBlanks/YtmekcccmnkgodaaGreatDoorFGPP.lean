import Derived.Test.YtmekcccmnkgodaaGreatDoorFGPI
namespace Go.Proofs.YtmekcccmnkgodaaGreatDoor
open Go.ChangeShapes Go.WideShapes Go.ChangeAt Go.RowKit
set_option linter.unusedVariables false
set_option linter.unusedSimpArgs false
set_option maxRecDepth 100000 in
set_option maxHeartbeats 2000000 in
theorem ct_ptype {X : Nat → Tk} {n f : Nat} (hA : TkA X n) (ih : ∀ g, g ≤ f → CT X n g) {w : World} {base pb : Nat} {lp : Option Addr} {lc : Nat} {s : St} {ks : List Value} (h : PS X n w base pb lp lc s ks) (hm : s.md.length + 0 ≤ s.nx) (hne : P X n (f + 1) (.ptype) s ≠ .out) : Calls Tryz.prog 55 #[.pointer (some ⟨pb, 0, none⟩)] w (Ft base pb lp lc n X w ks false (P X n (f + 1) (.ptype) s)) := by
  generalize hR : P X n (f + 1) (.ptype) s = R at hne ⊢
  rw [P_ptype] at hR
  have HR0 := mhid hR
  have HN := mhid hne
  have N0 := mhid (Now.start h)
  have IC := mhid (ih f (Nat.le_refl _))
  have G0 := mhid (And.intro hm (And.intro h.p.nx (And.intro h.p.dp hA.hn)))
  have IH := mhid ih
  clear hR hne h ih hm
  have fT := fld_text
  have fN := fld_num
  go_enter Tryz.func55, Tryz.ntmps55
  go_wp2_with (first
    | (go_at_call 73; (with_reducible refine (now_take hA (X := X) (n := n) (w := w) (base := base) (pb := pb) (lp := lp) (lc := lc) (ks0 := ks) (s := s) (ks := ks) ?_ (17) (by decide)).mono ?_); (first | with_reducible exact N0.out | with_reducible exact N0.out.below ((Below.refl _ _).alloc (Nat.le_refl _) _) | with_reducible exact N0.out.below (Below.refl _ _).drew | with_reducible exact N0.out.below ((Below.refl _ _).drew.alloc (Nat.le_refl _) _) | with_reducible exact N0.out.below (((Below.refl _ _).alloc (Nat.le_refl _) _).drew)); rintro e w1 (h1 | h1); (obtain ⟨er, h2, h3⟩ := h1; have h9 := HR0.out; simp only [h2, Pr_bad] at h9; have h5 := h3; obtain ⟨b9, rfl, -, -, -⟩ := h3; exact And.intro rfl (ft_bad h5 h9)); obtain ⟨s1, t1, r1, rfl, n1, u1⟩ := h1; have N1 := mhid n1; have h9 := HR0.out; simp only [r1, Pr_ok] at h9; have HR1 := mhid h9; clear h9 HR0; have G1 := mhid (take_nx r1); clear n1 u1 r1 N0)
    | (go_at_call 73; (with_reducible refine (now_take hA (X := X) (n := n) (w := w) (base := base) (pb := pb) (lp := lp) (lc := lc) (ks0 := ks) (s := s1) (ks := ks) ?_ (1) (by decide)).mono ?_); (first | with_reducible exact N1.out | with_reducible exact N1.out.below ((Below.refl _ _).alloc (Nat.le_refl _) _) | with_reducible exact N1.out.below (Below.refl _ _).drew | with_reducible exact N1.out.below ((Below.refl _ _).drew.alloc (Nat.le_refl _) _) | with_reducible exact N1.out.below (((Below.refl _ _).alloc (Nat.le_refl _) _).drew)); rintro e w2 (h2 | h2); (obtain ⟨er, h2, h3⟩ := h2; have h9 := HR1.out; simp only [h2, Pr_bad] at h9; have h5 := h3; obtain ⟨b9, rfl, -, -, -⟩ := h3; exact And.intro rfl (ft_bad h5 h9)); obtain ⟨s2, t2, r2, rfl, n2, u2⟩ := h2; have bb2 : w2.heap[w1.heap.size]? = some (.cells #[.int .i64 t1.kind, .string ⟨t1.text.toArray⟩, .int .u64 (t1.num : Int), .int .i64 t1.line, .int .i64 t1.col] 40 (0, 0)) := u2.box (by first | with_reducible exact World.alloc_heap_new _ _ | with_reducible exact BB.out | exact (show _ = _ from BB.out) | exact (Below.heap_alloc _ _ _ ((Array.getElem?_eq_some_iff.1 BB.out).1)).trans BB.out) (by decide) (by decide); (try clear x0 x1 x2 x3 x4); obtain ⟨x0, x1, x2, x3, x4⟩ := cell_box5 bb2; (try clear BB); have BB := mhid bb2; clear bb2; have N2 := mhid n2; have h9 := HR1.out; simp only [r2, Pr_ok] at h9; have HR2 := mhid h9; clear h9 HR1; have G2 := mhid (take_nx r2); clear n2 u2 r2 N1)
    | (go_at_call 76; (with_reducible refine (now_enter hA (X := X) (n := n) (w := w) (base := base) (pb := pb) (lp := lp) (lc := lc) (ks0 := ks) (s := s2) (ks := ks) ?_ (54) (by decide)).mono ?_); (first | with_reducible exact N2.out | with_reducible exact N2.out.below ((Below.refl _ _).alloc (Nat.le_refl _) _) | with_reducible exact N2.out.below (Below.refl _ _).drew | with_reducible exact N2.out.below ((Below.refl _ _).drew.alloc (Nat.le_refl _) _) | with_reducible exact N2.out.below (((Below.refl _ _).alloc (Nat.le_refl _) _).drew)); rintro e w3 (h3 | h3); (obtain ⟨er, h2, h3⟩ := h3; have h9 := HR2.out; simp only [h2, Pr_bad] at h9; have h5 := h3; obtain ⟨b9, rfl, -, -, -⟩ := h3; exact And.intro rfl (ft_bad h5 h9)); obtain ⟨s3, t3, r3, rfl, n3, u3⟩ := h3; have bb3 : w3.heap[w1.heap.size]? = some (.cells #[.int .i64 t1.kind, .string ⟨t1.text.toArray⟩, .int .u64 (t1.num : Int), .int .i64 t1.line, .int .i64 t1.col] 40 (0, 0)) := u3.box (by first | with_reducible exact World.alloc_heap_new _ _ | with_reducible exact BB.out | exact (show _ = _ from BB.out) | exact (Below.heap_alloc _ _ _ ((Array.getElem?_eq_some_iff.1 BB.out).1)).trans BB.out) (by decide) (by decide); (try clear x0 x1 x2 x3 x4); obtain ⟨x0, x1, x2, x3, x4⟩ := cell_box5 bb3; (try clear BB); have BB := mhid bb3; clear bb3; have N3 := mhid n3; have h9 := HR2.out; simp only [r3, Pr_ok] at h9; have HR3 := mhid h9; clear h9 HR2; have G3 := mhid (enter_nx r3); clear n3 u3 r3 N2))
  go_loopw [5] (fun v wr => ∃ (g : Nat) (l : List Nat) (S : St) (K : List Value) (p : Option Addr) (c : Nat), v = .slice p l.length c ∧ LpI X n w base pb lp lc ks f R (fun s4 l2 => (leave X n 55 s4).bind fun s5 _ => add t1 6 t2.text 0 0 l2 s5) .memL (fun W => W.heap[w1.heap.size]? = some (.cells #[.int .i64 t1.kind, .string ⟨t1.text.toArray⟩, .int .u64 (t1.num : Int), .int .i64 t1.line, .int .i64 t1.col] 40 (0, 0))) s3.dp g l S K p c wr) (fun _ wr => n - nxW pb wr)
  case atStart => exact ⟨f, [], s3, ks, none, 0, rfl, ⟨Nat.le_refl _, HR3.out, N3.out, own_nil0 _ _, fresh_nil _, BB.out, (by have zG0 := G0.out; have zG1 := G1.out; have zG2 := G2.out; have zG3 := G3.out; omega), (by have zG0 := G0.out; have zG1 := G1.out; have zG2 := G2.out; have zG3 := G3.out; omega), (by have zG0 := G0.out; have zG1 := G1.out; have zG2 := G2.out; have zG3 := G3.out; (try simp only [List.length_append, List.length_cons, List.length_nil]); omega)⟩⟩
  case round =>
    obtain ⟨g, l, S, K, p, c, rfl, hg, hR, hN, hO, hF, hB, hm1, hm2, hm3⟩ := hrel
    have hnx := hN.s.p.nx
    have G10 := mhid (And.intro hm1 (And.intro hm2 (And.intro hm3 hnx)))
    clear x0 x1 x2 x3 x4 BB
    clear N3 HR3 hm1 hm2 hm3 hnx
    cases g with
    | zero => exact absurd (show R = .out from hR.symm) HN.out
    | succ g =>
      rw [P_memL] at hR
      have OO := mhid hO
      have FF := mhid hF
      have BB := mhid (show wr.heap[w1.heap.size]? = some (.cells #[.int .i64 t1.kind, .string ⟨t1.text.toArray⟩, .int .u64 (t1.num : Int), .int .i64 t1.line, .int .i64 t1.col] 40 (0, 0)) from hB)
      obtain ⟨x0, x1, x2, x3, x4⟩ := cell_box5 BB.out
      have N10 := mhid hN
      clear IC
      have IC := mhid (IH.out g (by omega))
      clear hO hF hB hN
      by_cases q : kd X n S = 55
      · simp only [if_pos q, Pr_ok] at hR
        have HR10 := mhid hR
        clear hR
        go_wp2_with (first
          | (go_at_call 51; (with_reducible refine (now_kind hA (X := X) (n := n) (w := w) (base := base) (pb := pb) (lp := lp) (lc := lc) (ks0 := ks) (s := S) (ks := K) ?_).mono ?_); (first | with_reducible exact N10.out | with_reducible exact N10.out.below ((Below.refl _ _).alloc (Nat.le_refl _) _) | with_reducible exact N10.out.below (Below.refl _ _).drew | with_reducible exact N10.out.below ((Below.refl _ _).drew.alloc (Nat.le_refl _) _) | with_reducible exact N10.out.below (((Below.refl _ _).alloc (Nat.le_refl _) _).drew)); rintro e w11 ⟨rfl, n11, u11⟩; have bb11 : w11.heap[w1.heap.size]? = some (.cells #[.int .i64 t1.kind, .string ⟨t1.text.toArray⟩, .int .u64 (t1.num : Int), .int .i64 t1.line, .int .i64 t1.col] 40 (0, 0)) := u11.box (by first | with_reducible exact World.alloc_heap_new _ _ | with_reducible exact BB.out | exact (show _ = _ from BB.out) | exact (Below.heap_alloc _ _ _ ((Array.getElem?_eq_some_iff.1 BB.out).1)).trans BB.out) (by decide) (by decide); (try clear x0 x1 x2 x3 x4); obtain ⟨x0, x1, x2, x3, x4⟩ := cell_box5 bb11; (try clear BB); have BB := mhid bb11; clear bb11; have oo11 := u11.ownI (by first | with_reducible exact OO.out | exact own_more' OO.out (Below.refl _ _).drew | exact own_more' OO.out ((Below.refl _ _).alloc (Nat.le_refl _) _)) (by decide) (by decide); clear OO; have OO := mhid oo11; clear oo11; have N11 := mhid n11; have HR11 := mhid HR10.out; clear n11 u11 N10 HR10)
          | (go_at_call 78; (with_reducible refine (now_leave hA (X := X) (n := n) (w := w) (base := base) (pb := pb) (lp := lp) (lc := lc) (ks0 := ks) (s := S) (ks := K) ?_ (55) (by decide) ?_).mono ?_); (first | with_reducible exact N11.out | with_reducible exact N11.out.below ((Below.refl _ _).alloc (Nat.le_refl _) _) | with_reducible exact N11.out.below (Below.refl _ _).drew | with_reducible exact N11.out.below ((Below.refl _ _).drew.alloc (Nat.le_refl _) _) | with_reducible exact N11.out.below (((Below.refl _ _).alloc (Nat.le_refl _) _).drew)); (exact (by have zG0 := G0.out; have zG1 := G1.out; have zG2 := G2.out; have zG3 := G3.out; have zG10 := G10.out; omega)); rintro e w12 (h12 | h12); (obtain ⟨er, h2, h3⟩ := h12; have h9 := HR11.out; simp only [h2, Pr_bad] at h9; have h5 := h3; obtain ⟨b9, rfl, -, -, -⟩ := h3; exact And.intro rfl (ft_bad h5 h9)); obtain ⟨s12, r12, rfl, n12, u12⟩ := h12; have bb12 : w12.heap[w1.heap.size]? = some (.cells #[.int .i64 t1.kind, .string ⟨t1.text.toArray⟩, .int .u64 (t1.num : Int), .int .i64 t1.line, .int .i64 t1.col] 40 (0, 0)) := u12.box (by first | with_reducible exact World.alloc_heap_new _ _ | with_reducible exact BB.out | exact (show _ = _ from BB.out) | exact (Below.heap_alloc _ _ _ ((Array.getElem?_eq_some_iff.1 BB.out).1)).trans BB.out) (by decide) (by decide); (try clear x0 x1 x2 x3 x4); obtain ⟨x0, x1, x2, x3, x4⟩ := cell_box5 bb12; (try clear BB); have BB := mhid bb12; clear bb12; have oo12 := u12.ownI (by first | with_reducible exact OO.out | exact own_more' OO.out (Below.refl _ _).drew | exact own_more' OO.out ((Below.refl _ _).alloc (Nat.le_refl _) _)) (by decide) (by decide); clear OO; have OO := mhid oo12; clear oo12; have N12 := mhid n12; have h9 := HR11.out; simp only [r12, Pr_ok] at h9; have HR12 := mhid h9; clear h9 HR11; have G12 := mhid (leave_nx r12); clear n12 u12 r12 N11)
          | (go_at_call 36; (with_reducible refine (call_add (X := X) (n := n) (w := w) (base := base) (pb := pb) (lp := lp) (lc := lc) (ks0 := ks) (s := s12) (ks := K) ?_ t1 6 t2.text 0 0 rfl 0 (l) (.slice p (l.length) c) OO.out FF.out ?_).mono ?_); (first | with_reducible exact N12.out | with_reducible exact N12.out.below ((Below.refl _ _).alloc (Nat.le_refl _) _) | with_reducible exact N12.out.below (Below.refl _ _).drew | with_reducible exact N12.out.below ((Below.refl _ _).drew.alloc (Nat.le_refl _) _) | with_reducible exact N12.out.below (((Below.refl _ _).alloc (Nat.le_refl _) _).drew)); (exact (by have zG0 := G0.out; have zG1 := G1.out; have zG2 := G2.out; have zG3 := G3.out; have zG10 := G10.out; have zG12 := G12.out; omega)); rintro e w13 ⟨rfl, ks13, n13, u13⟩; have bb13 : w13.heap[w1.heap.size]? = some (.cells #[.int .i64 t1.kind, .string ⟨t1.text.toArray⟩, .int .u64 (t1.num : Int), .int .i64 t1.line, .int .i64 t1.col] 40 (0, 0)) := u13.box (by first | with_reducible exact World.alloc_heap_new _ _ | with_reducible exact BB.out | exact (show _ = _ from BB.out) | exact (Below.heap_alloc _ _ _ ((Array.getElem?_eq_some_iff.1 BB.out).1)).trans BB.out) (by decide) (by decide); (try clear x0 x1 x2 x3 x4); obtain ⟨x0, x1, x2, x3, x4⟩ := cell_box5 bb13; (try clear BB); have BB := mhid bb13; clear bb13; have N13 := mhid n13; have HR13 := mhid HR12.out; clear n13 u13 N12))
        go_ret
        exact ft_place N13.out HR13.out rfl
      · simp only [if_neg q] at hR
        have HR10 := mhid hR
        clear hR
        have hme : nxW pb wr = S.nx := N10.out.nx
        have HME := mhid hme
        clear hme
        go_wp2_with (first
          | (go_at_call 51; (with_reducible refine (now_kind hA (X := X) (n := n) (w := w) (base := base) (pb := pb) (lp := lp) (lc := lc) (ks0 := ks) (s := S) (ks := K) ?_).mono ?_); (first | with_reducible exact N10.out | with_reducible exact N10.out.below ((Below.refl _ _).alloc (Nat.le_refl _) _) | with_reducible exact N10.out.below (Below.refl _ _).drew | with_reducible exact N10.out.below ((Below.refl _ _).drew.alloc (Nat.le_refl _) _) | with_reducible exact N10.out.below (((Below.refl _ _).alloc (Nat.le_refl _) _).drew)); rintro e w11 ⟨rfl, n11, u11⟩; have bb11 : w11.heap[w1.heap.size]? = some (.cells #[.int .i64 t1.kind, .string ⟨t1.text.toArray⟩, .int .u64 (t1.num : Int), .int .i64 t1.line, .int .i64 t1.col] 40 (0, 0)) := u11.box (by first | with_reducible exact World.alloc_heap_new _ _ | with_reducible exact BB.out | exact (show _ = _ from BB.out) | exact (Below.heap_alloc _ _ _ ((Array.getElem?_eq_some_iff.1 BB.out).1)).trans BB.out) (by decide) (by decide); (try clear x0 x1 x2 x3 x4); obtain ⟨x0, x1, x2, x3, x4⟩ := cell_box5 bb11; (try clear BB); have BB := mhid bb11; clear bb11; have oo11 := u11.ownI (by first | with_reducible exact OO.out | exact own_more' OO.out (Below.refl _ _).drew | exact own_more' OO.out ((Below.refl _ _).alloc (Nat.le_refl _) _)) (by decide) (by decide); clear OO; have OO := mhid oo11; clear oo11; have N11 := mhid n11; have HR11 := mhid HR10.out; clear n11 u11 N10 HR10)
          | (go_at_call 77; (with_reducible refine (call_member IC.out (X := X) (n := n) (w := w) (base := base) (pb := pb) (lp := lp) (lc := lc) (ks0 := ks) (s := S) (ks := K) ?_ ?_  ?_).mono ?_); (first | with_reducible exact N11.out | with_reducible exact N11.out.below ((Below.refl _ _).alloc (Nat.le_refl _) _) | with_reducible exact N11.out.below (Below.refl _ _).drew | with_reducible exact N11.out.below ((Below.refl _ _).drew.alloc (Nat.le_refl _) _) | with_reducible exact N11.out.below (((Below.refl _ _).alloc (Nat.le_refl _) _).drew)); (exact (by have zG0 := G0.out; have zG1 := G1.out; have zG2 := G2.out; have zG3 := G3.out; have zG10 := G10.out; omega)); (exact (fun e9 => HN.out (by have h9 := HR11.out; rw [e9] at h9; exact h9.symm))); rintro e w12 (h12 | h12); (obtain ⟨er, h2, h3⟩ := h12; have h9 := HR11.out; simp only [h2, Pr_bad] at h9; have h5 := h3; obtain ⟨b9, rfl, -, -, -⟩ := h3; exact And.intro rfl (ft_bad h5 h9)); obtain ⟨s12, v12, ks12, r12, rfl, n12, u12, gw12⟩ := h12; have bb12 : w12.heap[w1.heap.size]? = some (.cells #[.int .i64 t1.kind, .string ⟨t1.text.toArray⟩, .int .u64 (t1.num : Int), .int .i64 t1.line, .int .i64 t1.col] 40 (0, 0)) := u12.box (by first | with_reducible exact World.alloc_heap_new _ _ | with_reducible exact BB.out | exact (show _ = _ from BB.out) | exact (Below.heap_alloc _ _ _ ((Array.getElem?_eq_some_iff.1 BB.out).1)).trans BB.out) (by decide) (by decide); (try clear x0 x1 x2 x3 x4); obtain ⟨x0, x1, x2, x3, x4⟩ := cell_box5 bb12; (try clear BB); have BB := mhid bb12; clear bb12; have oo12 := u12.ownI (by first | with_reducible exact OO.out | exact own_more' OO.out (Below.refl _ _).drew | exact own_more' OO.out ((Below.refl _ _).alloc (Nat.le_refl _) _)) (by decide) (by decide); have ff12 := Fresh.step FF.out gw12 (fun b hb => Nat.lt_of_lt_of_le (own_ltG OO.out hb).1 (by simp)); clear FF; have FF := mhid ff12; clear OO; have OO := mhid oo12; clear oo12; have N12 := mhid n12; have h9 := HR11.out; simp only [r12, Pr_ok] at h9; have HR12 := mhid h9; clear h9 HR11; have G12 := mhid (fr2p rfl rfl r12); simp only [Mt.cr, Mt.pg] at G12; clear n12 u12 r12 N11 gw12)
          | (refine wpList_kid (X := X) (n := n) (w := w) (base := base) (pb := pb) (lp := lp) (lc := lc) (ks0 := ks) (S := s12) (ks := ks12) rfl (.tmp 16) (.tmp 19) rfl N12.out (l) (l.length) (by simp) p c rfl OO.out FF.out (hd v12) rfl (by have zG0 := G0.out; have zG1 := G1.out; have zG2 := G2.out; have zG3 := G3.out; have zG10 := G10.out; have zG12 := G12.out; (try simp only [List.length_append, List.length_cons, List.length_nil]); omega) ?_; intro p13 c13 w13 o13 f13 n13 b13; have bb13 := b13 _ _ _ BB.out; (try clear x0 x1 x2 x3 x4); obtain ⟨x0, x1, x2, x3, x4⟩ := cell_box5 bb13; clear BB; have BB := mhid bb13; clear bb13; have N13 := mhid n13; have HR13 := mhid HR12.out; clear OO FF N12 HR12; have OO := mhid o13; have FF := mhid f13; clear n13 o13 f13 b13))
        have hlen : (l ++ [hd v12]).length = l.length + 1 := by simp
        refine ⟨⟨g, l ++ [hd v12], s12, ks12, p13, c13, by rw [hlen], ⟨by omega, HR13.out, N13.out, by rw [hlen]; have h8 := OO.out; rw [hlen] at h8; exact h8, by rw [hlen]; exact FF.out, BB.out, (by have zG0 := G0.out; have zG1 := G1.out; have zG2 := G2.out; have zG3 := G3.out; have zG10 := G10.out; have zG12 := G12.out; omega), (by have zG0 := G0.out; have zG1 := G1.out; have zG2 := G2.out; have zG3 := G3.out; have zG10 := G10.out; have zG12 := G12.out; omega), (by have zG0 := G0.out; have zG1 := G1.out; have zG2 := G2.out; have zG3 := G3.out; have zG10 := G10.out; have zG12 := G12.out; rw [hlen]; omega)⟩⟩, ?_⟩
        show n - nxW pb w13 < n - nxW pb wr
        rw [N13.out.nx, HME.out]
        exact (by have zG0 := G0.out; have zG1 := G1.out; have zG2 := G2.out; have zG3 := G3.out; have zG10 := G10.out; have zG12 := G12.out; omega)
set_option maxRecDepth 100000 in
set_option maxHeartbeats 2000000 in
theorem ct_kinds {X : Nat → Tk} {n f : Nat} (hA : TkA X n) (ih : ∀ g, g ≤ f → CT X n g) {w : World} {base pb : Nat} {lp : Option Addr} {lc : Nat} {s : St} {ks : List Value} (h : PS X n w base pb lp lc s ks) (hm : s.md.length + 0 ≤ s.nx) (hne : P X n (f + 1) (.kinds) s ≠ .out) : Calls Tryz.prog 54 #[.pointer (some ⟨pb, 0, none⟩)] w (Ft base pb lp lc n X w ks false (P X n (f + 1) (.kinds) s)) := by
  generalize hR : P X n (f + 1) (.kinds) s = R at hne ⊢
  rw [P_kinds] at hR
  have HR0 := mhid hR
  have HN := mhid hne
  have N0 := mhid (Now.start h)
  have IC := mhid (ih f (Nat.le_refl _))
  have G0 := mhid (And.intro hm (And.intro h.p.nx (And.intro h.p.dp hA.hn)))
  have IH := mhid ih
  clear hR hne h ih hm
  go_enter Tryz.func54, Tryz.ntmps54
  go_wp2_with (first
    | (go_at_call 73; (with_reducible refine (now_take hA (X := X) (n := n) (w := w) (base := base) (pb := pb) (lp := lp) (lc := lc) (ks0 := ks) (s := s) (ks := ks) ?_ (16) (by decide)).mono ?_); (first | with_reducible exact N0.out | with_reducible exact N0.out.below ((Below.refl _ _).alloc (Nat.le_refl _) _) | with_reducible exact N0.out.below (Below.refl _ _).drew | with_reducible exact N0.out.below ((Below.refl _ _).drew.alloc (Nat.le_refl _) _) | with_reducible exact N0.out.below (((Below.refl _ _).alloc (Nat.le_refl _) _).drew)); rintro e w1 (h1 | h1); (obtain ⟨er, h2, h3⟩ := h1; have h9 := HR0.out; simp only [h2, Pr_bad] at h9; have h5 := h3; obtain ⟨b9, rfl, -, -, -⟩ := h3; exact And.intro rfl (ft_bad h5 h9)); obtain ⟨s1, t1, r1, rfl, n1, u1⟩ := h1; have N1 := mhid n1; have h9 := HR0.out; simp only [r1, Pr_ok] at h9; have HR1 := mhid h9; clear h9 HR0; have G1 := mhid (take_nx r1); clear n1 u1 r1 N0)
    | (go_at_call 75; (with_reducible refine (call_name IC.out 5 (X := X) (n := n) (w := w) (base := base) (pb := pb) (lp := lp) (lc := lc) (ks0 := ks) (s := s1) (ks := ks) ?_ ?_  ?_).mono ?_); (first | with_reducible exact N1.out | with_reducible exact N1.out.below ((Below.refl _ _).alloc (Nat.le_refl _) _) | with_reducible exact N1.out.below (Below.refl _ _).drew | with_reducible exact N1.out.below ((Below.refl _ _).drew.alloc (Nat.le_refl _) _) | with_reducible exact N1.out.below (((Below.refl _ _).alloc (Nat.le_refl _) _).drew)); (exact (by have zG0 := G0.out; have zG1 := G1.out; omega)); (exact (fun e9 => HN.out (by have h9 := HR1.out; rw [e9] at h9; exact h9.symm))); rintro e w2 (h2 | h2); (obtain ⟨er, h2, h3⟩ := h2; have h9 := HR1.out; simp only [h2, Pr_bad] at h9; have h5 := h3; obtain ⟨b9, rfl, -, -, -⟩ := h3; exact And.intro rfl (ft_bad h5 h9)); obtain ⟨s2, v2, ks2, r2, rfl, n2, u2, gw2⟩ := h2; have bb2 : w2.heap[w1.heap.size]? = some (.cells #[.int .i64 t1.kind, .string ⟨t1.text.toArray⟩, .int .u64 (t1.num : Int), .int .i64 t1.line, .int .i64 t1.col] 40 (0, 0)) := u2.box (by first | with_reducible exact World.alloc_heap_new _ _ | with_reducible exact BB.out | exact (show _ = _ from BB.out) | exact (Below.heap_alloc _ _ _ ((Array.getElem?_eq_some_iff.1 BB.out).1)).trans BB.out) (by decide) (by decide); (try clear x0 x1 x2 x3 x4); obtain ⟨x0, x1, x2, x3, x4⟩ := cell_box5 bb2; (try clear BB); have BB := mhid bb2; clear bb2; have N2 := mhid n2; have h9 := HR1.out; simp only [r2, Pr_ok] at h9; have HR2 := mhid h9; clear h9 HR1; have G2 := mhid (fr2 rfl r2); simp only [Mt.cr, Mt.pg] at G2; clear n2 u2 r2 N1 gw2))
  obtain ⟨wq, hwq⟩ : ∃ wq, w2.alloc (.cells #[.int .i64 (hd v2 : Int)] 3) = wq := ⟨_, rfl⟩
  have nb := N2.out.below (W' := wq) (by rw [← hwq]; exact (Below.refl _ _).alloc (Nat.le_refl _) _)
  have oo : Own wq w.heap.size 3 1 (.slice (some ⟨w2.heap.size, 0, none⟩) 1 1) [hd v2].length (kF [hd v2]) := by rw [← hwq]; exact own_low (own_lit1 w2 (hd v2)) N2.out.k.size
  have ff : Fresh ks2 (.slice (some ⟨w2.heap.size, 0, none⟩) 1 1) := N2.out.s.p.fresh fun b hb => by simp [Value.ownBlock] at hb; omega
  have OO := mhid oo
  have FF := mhid ff
  have bb : wq.heap[w1.heap.size]? = some (.cells #[.int .i64 t1.kind, .string ⟨t1.text.toArray⟩, .int .u64 (t1.num : Int), .int .i64 t1.line, .int .i64 t1.col] 40 (0, 0)) := by rw [← hwq]; exact (Below.heap_alloc _ _ _ ((Array.getElem?_eq_some_iff.1 BB.out).1)).trans BB.out
  clear x0 x1 x2 x3 x4
  obtain ⟨x0, x1, x2, x3, x4⟩ := cell_box5 bb
  clear BB
  have BB := mhid bb
  clear bb
  rw [hwq]
  clear hwq N2 oo ff
  have N2 := mhid nb
  clear nb
  go_loopw [4] (fun v wr => ∃ (g : Nat) (l : List Nat) (S : St) (K : List Value) (p : Option Addr) (c : Nat), v = .slice p l.length c ∧ LpI X n w base pb lp lc ks f R (fun s3 l2 => add t1 4 [] 0 0 l2 s3) .kindsL (fun W => W.heap[w1.heap.size]? = some (.cells #[.int .i64 t1.kind, .string ⟨t1.text.toArray⟩, .int .u64 (t1.num : Int), .int .i64 t1.line, .int .i64 t1.col] 40 (0, 0))) s2.dp g l S K p c wr) (fun _ wr => n - nxW pb wr)
  case atStart => exact ⟨f, [hd v2], s2, ks2, (some ⟨w2.heap.size, 0, none⟩), 1, rfl, ⟨Nat.le_refl _, HR2.out, N2.out, OO.out, FF.out, BB.out, (by have zG0 := G0.out; have zG1 := G1.out; have zG2 := G2.out; omega), (by have zG0 := G0.out; have zG1 := G1.out; have zG2 := G2.out; omega), (by have zG0 := G0.out; have zG1 := G1.out; have zG2 := G2.out; (try simp only [List.length_append, List.length_cons, List.length_nil]); omega)⟩⟩
  case round =>
    obtain ⟨g, l, S, K, p, c, rfl, hg, hR, hN, hO, hF, hB, hm1, hm2, hm3⟩ := hrel
    have hnx := hN.s.p.nx
    have G10 := mhid (And.intro hm1 (And.intro hm2 (And.intro hm3 hnx)))
    clear x0 x1 x2 x3 x4 BB
    clear N2 HR2 hm1 hm2 hm3 hnx
    cases g with
    | zero => exact absurd (show R = .out from hR.symm) HN.out
    | succ g =>
      rw [P_kindsL] at hR
      have OO := mhid hO
      have FF := mhid hF
      have BB := mhid (show wr.heap[w1.heap.size]? = some (.cells #[.int .i64 t1.kind, .string ⟨t1.text.toArray⟩, .int .u64 (t1.num : Int), .int .i64 t1.line, .int .i64 t1.col] 40 (0, 0)) from hB)
      obtain ⟨x0, x1, x2, x3, x4⟩ := cell_box5 BB.out
      have N10 := mhid hN
      clear IC
      have IC := mhid (IH.out g (by omega))
      clear hO hF hB hN
      by_cases q : kd X n S = 56
      · simp only [if_pos q] at hR
        have HR10 := mhid hR
        clear hR
        have hme : nxW pb wr = S.nx := N10.out.nx
        have HME := mhid hme
        clear hme
        go_wp2_with (first
          | (go_at_call 51; (with_reducible refine (now_kind hA (X := X) (n := n) (w := w) (base := base) (pb := pb) (lp := lp) (lc := lc) (ks0 := ks) (s := S) (ks := K) ?_).mono ?_); (first | with_reducible exact N10.out | with_reducible exact N10.out.below ((Below.refl _ _).alloc (Nat.le_refl _) _) | with_reducible exact N10.out.below (Below.refl _ _).drew | with_reducible exact N10.out.below ((Below.refl _ _).drew.alloc (Nat.le_refl _) _) | with_reducible exact N10.out.below (((Below.refl _ _).alloc (Nat.le_refl _) _).drew)); rintro e w11 ⟨rfl, n11, u11⟩; have bb11 : w11.heap[w1.heap.size]? = some (.cells #[.int .i64 t1.kind, .string ⟨t1.text.toArray⟩, .int .u64 (t1.num : Int), .int .i64 t1.line, .int .i64 t1.col] 40 (0, 0)) := u11.box (by first | with_reducible exact World.alloc_heap_new _ _ | with_reducible exact BB.out | exact (show _ = _ from BB.out) | exact (Below.heap_alloc _ _ _ ((Array.getElem?_eq_some_iff.1 BB.out).1)).trans BB.out) (by decide) (by decide); (try clear x0 x1 x2 x3 x4); obtain ⟨x0, x1, x2, x3, x4⟩ := cell_box5 bb11; (try clear BB); have BB := mhid bb11; clear bb11; have oo11 := u11.ownI (by first | with_reducible exact OO.out | exact own_more' OO.out (Below.refl _ _).drew | exact own_more' OO.out ((Below.refl _ _).alloc (Nat.le_refl _) _)) (by decide) (by decide); clear OO; have OO := mhid oo11; clear oo11; have N11 := mhid n11; have HR11 := mhid HR10.out; clear n11 u11 N10 HR10)
          | (go_at_call 73; (with_reducible refine (now_take hA (X := X) (n := n) (w := w) (base := base) (pb := pb) (lp := lp) (lc := lc) (ks0 := ks) (s := S) (ks := K) ?_ (56) (by decide)).mono ?_); (first | with_reducible exact N11.out | with_reducible exact N11.out.below ((Below.refl _ _).alloc (Nat.le_refl _) _) | with_reducible exact N11.out.below (Below.refl _ _).drew | with_reducible exact N11.out.below ((Below.refl _ _).drew.alloc (Nat.le_refl _) _) | with_reducible exact N11.out.below (((Below.refl _ _).alloc (Nat.le_refl _) _).drew)); rintro e w12 (h12 | h12); (obtain ⟨er, h2, h3⟩ := h12; have h9 := HR11.out; simp only [h2, Pr_bad] at h9; have h5 := h3; obtain ⟨b9, rfl, -, -, -⟩ := h3; exact And.intro rfl (ft_bad h5 h9)); obtain ⟨s12, t12, r12, rfl, n12, u12⟩ := h12; have bb12 : w12.heap[w1.heap.size]? = some (.cells #[.int .i64 t1.kind, .string ⟨t1.text.toArray⟩, .int .u64 (t1.num : Int), .int .i64 t1.line, .int .i64 t1.col] 40 (0, 0)) := u12.box (by first | with_reducible exact World.alloc_heap_new _ _ | with_reducible exact BB.out | exact (show _ = _ from BB.out) | exact (Below.heap_alloc _ _ _ ((Array.getElem?_eq_some_iff.1 BB.out).1)).trans BB.out) (by decide) (by decide); (try clear x0 x1 x2 x3 x4); obtain ⟨x0, x1, x2, x3, x4⟩ := cell_box5 bb12; (try clear BB); have BB := mhid bb12; clear bb12; have oo12 := u12.ownI (by first | with_reducible exact OO.out | exact own_more' OO.out (Below.refl _ _).drew | exact own_more' OO.out ((Below.refl _ _).alloc (Nat.le_refl _) _)) (by decide) (by decide); clear OO; have OO := mhid oo12; clear oo12; have N12 := mhid n12; have h9 := HR11.out; simp only [r12, Pr_ok] at h9; have HR12 := mhid h9; clear h9 HR11; have G12 := mhid (take_nx r12); clear n12 u12 r12 N11)
          | (go_at_call 75; (with_reducible refine (call_name IC.out 5 (X := X) (n := n) (w := w) (base := base) (pb := pb) (lp := lp) (lc := lc) (ks0 := ks) (s := s12) (ks := K) ?_ ?_  ?_).mono ?_); (first | with_reducible exact N12.out | with_reducible exact N12.out.below ((Below.refl _ _).alloc (Nat.le_refl _) _) | with_reducible exact N12.out.below (Below.refl _ _).drew | with_reducible exact N12.out.below ((Below.refl _ _).drew.alloc (Nat.le_refl _) _) | with_reducible exact N12.out.below (((Below.refl _ _).alloc (Nat.le_refl _) _).drew)); (exact (by have zG0 := G0.out; have zG1 := G1.out; have zG2 := G2.out; have zG10 := G10.out; have zG12 := G12.out; omega)); (exact (fun e9 => HN.out (by have h9 := HR12.out; rw [e9] at h9; exact h9.symm))); rintro e w13 (h13 | h13); (obtain ⟨er, h2, h3⟩ := h13; have h9 := HR12.out; simp only [h2, Pr_bad] at h9; have h5 := h3; obtain ⟨b9, rfl, -, -, -⟩ := h3; exact And.intro rfl (ft_bad h5 h9)); obtain ⟨s13, v13, ks13, r13, rfl, n13, u13, gw13⟩ := h13; have bb13 : w13.heap[w1.heap.size]? = some (.cells #[.int .i64 t1.kind, .string ⟨t1.text.toArray⟩, .int .u64 (t1.num : Int), .int .i64 t1.line, .int .i64 t1.col] 40 (0, 0)) := u13.box (by first | with_reducible exact World.alloc_heap_new _ _ | with_reducible exact BB.out | exact (show _ = _ from BB.out) | exact (Below.heap_alloc _ _ _ ((Array.getElem?_eq_some_iff.1 BB.out).1)).trans BB.out) (by decide) (by decide); (try clear x0 x1 x2 x3 x4); obtain ⟨x0, x1, x2, x3, x4⟩ := cell_box5 bb13; (try clear BB); have BB := mhid bb13; clear bb13; have oo13 := u13.ownI (by first | with_reducible exact OO.out | exact own_more' OO.out (Below.refl _ _).drew | exact own_more' OO.out ((Below.refl _ _).alloc (Nat.le_refl _) _)) (by decide) (by decide); have ff13 := Fresh.step FF.out gw13 (fun b hb => Nat.lt_of_lt_of_le (own_ltG OO.out hb).1 (by simp)); clear FF; have FF := mhid ff13; clear OO; have OO := mhid oo13; clear oo13; have N13 := mhid n13; have h9 := HR12.out; simp only [r13, Pr_ok] at h9; have HR13 := mhid h9; clear h9 HR12; have G13 := mhid (fr2p rfl rfl r13); simp only [Mt.cr, Mt.pg] at G13; clear n13 u13 r13 N12 gw13)
          | (refine wpList_kid (X := X) (n := n) (w := w) (base := base) (pb := pb) (lp := lp) (lc := lc) (ks0 := ks) (S := s13) (ks := ks13) rfl (.tmp 15) (.tmp 18) rfl N13.out (l) (l.length) (by simp) p c rfl OO.out FF.out (hd v13) rfl (by have zG0 := G0.out; have zG1 := G1.out; have zG2 := G2.out; have zG10 := G10.out; have zG12 := G12.out; have zG13 := G13.out; (try simp only [List.length_append, List.length_cons, List.length_nil]); omega) ?_; intro p14 c14 w14 o14 f14 n14 b14; have bb14 := b14 _ _ _ BB.out; (try clear x0 x1 x2 x3 x4); obtain ⟨x0, x1, x2, x3, x4⟩ := cell_box5 bb14; clear BB; have BB := mhid bb14; clear bb14; have N14 := mhid n14; have HR14 := mhid HR13.out; clear OO FF N13 HR13; have OO := mhid o14; have FF := mhid f14; clear n14 o14 f14 b14))
        have hlen : (l ++ [hd v13]).length = l.length + 1 := by simp
        refine ⟨⟨g, l ++ [hd v13], s13, ks13, p14, c14, by rw [hlen], ⟨by omega, HR14.out, N14.out, by rw [hlen]; have h8 := OO.out; rw [hlen] at h8; exact h8, by rw [hlen]; exact FF.out, BB.out, (by have zG0 := G0.out; have zG1 := G1.out; have zG2 := G2.out; have zG10 := G10.out; have zG12 := G12.out; have zG13 := G13.out; omega), (by have zG0 := G0.out; have zG1 := G1.out; have zG2 := G2.out; have zG10 := G10.out; have zG12 := G12.out; have zG13 := G13.out; omega), (by have zG0 := G0.out; have zG1 := G1.out; have zG2 := G2.out; have zG10 := G10.out; have zG12 := G12.out; have zG13 := G13.out; rw [hlen]; omega)⟩⟩, ?_⟩
        show n - nxW pb w14 < n - nxW pb wr
        rw [N14.out.nx, HME.out]
        exact (by have zG0 := G0.out; have zG1 := G1.out; have zG2 := G2.out; have zG10 := G10.out; have zG12 := G12.out; have zG13 := G13.out; omega)
      · simp only [if_neg q, Pr_ok] at hR
        have HR10 := mhid hR
        clear hR
        go_wp2_with (first
          | (go_at_call 51; (with_reducible refine (now_kind hA (X := X) (n := n) (w := w) (base := base) (pb := pb) (lp := lp) (lc := lc) (ks0 := ks) (s := S) (ks := K) ?_).mono ?_); (first | with_reducible exact N10.out | with_reducible exact N10.out.below ((Below.refl _ _).alloc (Nat.le_refl _) _) | with_reducible exact N10.out.below (Below.refl _ _).drew | with_reducible exact N10.out.below ((Below.refl _ _).drew.alloc (Nat.le_refl _) _) | with_reducible exact N10.out.below (((Below.refl _ _).alloc (Nat.le_refl _) _).drew)); rintro e w11 ⟨rfl, n11, u11⟩; have bb11 : w11.heap[w1.heap.size]? = some (.cells #[.int .i64 t1.kind, .string ⟨t1.text.toArray⟩, .int .u64 (t1.num : Int), .int .i64 t1.line, .int .i64 t1.col] 40 (0, 0)) := u11.box (by first | with_reducible exact World.alloc_heap_new _ _ | with_reducible exact BB.out | exact (show _ = _ from BB.out) | exact (Below.heap_alloc _ _ _ ((Array.getElem?_eq_some_iff.1 BB.out).1)).trans BB.out) (by decide) (by decide); (try clear x0 x1 x2 x3 x4); obtain ⟨x0, x1, x2, x3, x4⟩ := cell_box5 bb11; (try clear BB); have BB := mhid bb11; clear bb11; have oo11 := u11.ownI (by first | with_reducible exact OO.out | exact own_more' OO.out (Below.refl _ _).drew | exact own_more' OO.out ((Below.refl _ _).alloc (Nat.le_refl _) _)) (by decide) (by decide); clear OO; have OO := mhid oo11; clear oo11; have N11 := mhid n11; have HR11 := mhid HR10.out; clear n11 u11 N10 HR10)
          | (go_at_call 36; (with_reducible refine (call_add (X := X) (n := n) (w := w) (base := base) (pb := pb) (lp := lp) (lc := lc) (ks0 := ks) (s := S) (ks := K) ?_ t1 4 [] 0 0 rfl 0 (l) (.slice p (l.length) c) OO.out FF.out ?_).mono ?_); (first | with_reducible exact N11.out | with_reducible exact N11.out.below ((Below.refl _ _).alloc (Nat.le_refl _) _) | with_reducible exact N11.out.below (Below.refl _ _).drew | with_reducible exact N11.out.below ((Below.refl _ _).drew.alloc (Nat.le_refl _) _) | with_reducible exact N11.out.below (((Below.refl _ _).alloc (Nat.le_refl _) _).drew)); (exact (by have zG0 := G0.out; have zG1 := G1.out; have zG2 := G2.out; have zG10 := G10.out; omega)); rintro e w12 ⟨rfl, ks12, n12, u12⟩; have bb12 : w12.heap[w1.heap.size]? = some (.cells #[.int .i64 t1.kind, .string ⟨t1.text.toArray⟩, .int .u64 (t1.num : Int), .int .i64 t1.line, .int .i64 t1.col] 40 (0, 0)) := u12.box (by first | with_reducible exact World.alloc_heap_new _ _ | with_reducible exact BB.out | exact (show _ = _ from BB.out) | exact (Below.heap_alloc _ _ _ ((Array.getElem?_eq_some_iff.1 BB.out).1)).trans BB.out) (by decide) (by decide); (try clear x0 x1 x2 x3 x4); obtain ⟨x0, x1, x2, x3, x4⟩ := cell_box5 bb12; (try clear BB); have BB := mhid bb12; clear bb12; have N12 := mhid n12; have HR12 := mhid HR11.out; clear n12 u12 N11))
        go_ret
        exact ft_place N12.out HR12.out rfl
set_option maxRecDepth 100000 in
set_option maxHeartbeats 2000000 in
theorem ct_gives {X : Nat → Tk} {n f : Nat} (hA : TkA X n) (ih : ∀ g, g ≤ f → CT X n g) {w : World} {base pb : Nat} {lp : Option Addr} {lc : Nat} {s : St} {ks : List Value} (h : PS X n w base pb lp lc s ks) (hm : s.md.length + 0 ≤ s.nx) (hne : P X n (f + 1) (.gives) s ≠ .out) : Calls Tryz.prog 80 #[.pointer (some ⟨pb, 0, none⟩)] w (Ft base pb lp lc n X w ks true (P X n (f + 1) (.gives) s)) := by
  generalize hR : P X n (f + 1) (.gives) s = R at hne ⊢
  rw [P_gives] at hR
  have HR0 := mhid hR
  have HN := mhid hne
  have N0 := mhid (Now.start h)
  have IC := mhid (ih f (Nat.le_refl _))
  have G0 := mhid (And.intro hm (And.intro h.p.nx (And.intro h.p.dp hA.hn)))
  have IH := mhid ih
  clear hR hne h ih hm
  go_enter Tryz.func80, Tryz.ntmps80
  go_wp2_with (first
    | (go_at_call 76; (with_reducible refine (now_enter hA (X := X) (n := n) (w := w) (base := base) (pb := pb) (lp := lp) (lc := lc) (ks0 := ks) (s := s) (ks := ks) ?_ (50) (by decide)).mono ?_); (first | with_reducible exact N0.out | with_reducible exact N0.out.below ((Below.refl _ _).alloc (Nat.le_refl _) _) | with_reducible exact N0.out.below (Below.refl _ _).drew | with_reducible exact N0.out.below ((Below.refl _ _).drew.alloc (Nat.le_refl _) _) | with_reducible exact N0.out.below (((Below.refl _ _).alloc (Nat.le_refl _) _).drew)); rintro e w1 (h1 | h1); (obtain ⟨er, h2, h3⟩ := h1; have h9 := HR0.out; simp only [h2, Pr_bad] at h9; have h5 := h3; obtain ⟨b9, rfl, -, -, -⟩ := h3; exact And.intro rfl (ft_bad h5 h9)); obtain ⟨s1, t1, r1, rfl, n1, u1⟩ := h1; have N1 := mhid n1; have h9 := HR0.out; simp only [r1, Pr_ok] at h9; have HR1 := mhid h9; clear h9 HR0; have G1 := mhid (enter_nx r1); clear n1 u1 r1 N0)
    | (go_at_call 96; (with_reducible refine (call_give IC.out (X := X) (n := n) (w := w) (base := base) (pb := pb) (lp := lp) (lc := lc) (ks0 := ks) (s := s1) (ks := ks) ?_ ?_  ?_).mono ?_); (first | with_reducible exact N1.out | with_reducible exact N1.out.below ((Below.refl _ _).alloc (Nat.le_refl _) _) | with_reducible exact N1.out.below (Below.refl _ _).drew | with_reducible exact N1.out.below ((Below.refl _ _).drew.alloc (Nat.le_refl _) _) | with_reducible exact N1.out.below (((Below.refl _ _).alloc (Nat.le_refl _) _).drew)); (exact (by have zG0 := G0.out; have zG1 := G1.out; omega)); (exact (fun e9 => HN.out (by have h9 := HR1.out; rw [e9] at h9; exact h9.symm))); rintro e w2 (h2 | h2); (obtain ⟨er, h2, h3⟩ := h2; have h9 := HR1.out; simp only [h2, Pr_bad] at h9; have h5 := h3; obtain ⟨b9, rfl, -, -, -⟩ := h3; exact And.intro rfl (ft_bad h5 h9)); obtain ⟨s2, v2, ks2, r2, rfl, n2, u2, gw2⟩ := h2; have N2 := mhid n2; have h9 := HR1.out; simp only [r2, Pr_ok] at h9; have HR2 := mhid h9; clear h9 HR1; have G2 := mhid (fr2 rfl r2); simp only [Mt.cr, Mt.pg] at G2; clear n2 u2 r2 N1 gw2))
  obtain ⟨wq, hwq⟩ : ∃ wq, w2.alloc (.cells #[.int .i64 (hd v2 : Int)] 3) = wq := ⟨_, rfl⟩
  have nb := N2.out.below (W' := wq) (by rw [← hwq]; exact (Below.refl _ _).alloc (Nat.le_refl _) _)
  have oo : Own wq w.heap.size 3 1 (.slice (some ⟨w2.heap.size, 0, none⟩) 1 1) [hd v2].length (kF [hd v2]) := by rw [← hwq]; exact own_low (own_lit1 w2 (hd v2)) N2.out.k.size
  have ff : Fresh ks2 (.slice (some ⟨w2.heap.size, 0, none⟩) 1 1) := N2.out.s.p.fresh fun b hb => by simp [Value.ownBlock] at hb; omega
  have OO := mhid oo
  have FF := mhid ff
  rw [hwq]
  clear hwq N2 oo ff
  have N2 := mhid nb
  clear nb
  go_loopw [3] (fun v wr => ∃ (g : Nat) (l : List Nat) (S : St) (K : List Value) (p : Option Addr) (c : Nat), v = .slice p l.length c ∧ LpI X n w base pb lp lc ks f R (fun s3 l2 => (leave X n 51 s3).bind fun s4 _ => .ok s4 l2) .givesL (fun _ => True) s2.dp g l S K p c wr) (fun _ wr => n - nxW pb wr)
  case atStart => exact ⟨f, [hd v2], s2, ks2, (some ⟨w2.heap.size, 0, none⟩), 1, rfl, ⟨Nat.le_refl _, HR2.out, N2.out, OO.out, FF.out, trivial, (by have zG0 := G0.out; have zG1 := G1.out; have zG2 := G2.out; omega), (by have zG0 := G0.out; have zG1 := G1.out; have zG2 := G2.out; omega), (by have zG0 := G0.out; have zG1 := G1.out; have zG2 := G2.out; (try simp only [List.length_append, List.length_cons, List.length_nil]); omega)⟩⟩
  case round =>
    obtain ⟨g, l, S, K, p, c, rfl, hg, hR, hN, hO, hF, hB, hm1, hm2, hm3⟩ := hrel
    have hnx := hN.s.p.nx
    have G10 := mhid (And.intro hm1 (And.intro hm2 (And.intro hm3 hnx)))
    skip
    clear N2 HR2 hm1 hm2 hm3 hnx
    cases g with
    | zero => exact absurd (show R = .out from hR.symm) HN.out
    | succ g =>
      rw [P_givesL] at hR
      have OO := mhid hO
      have FF := mhid hF
      have N10 := mhid hN
      clear IC
      have IC := mhid (IH.out g (by omega))
      clear hO hF hB hN
      by_cases q : kd X n S = 56
      · simp only [if_pos q] at hR
        have HR10 := mhid hR
        clear hR
        have hme : nxW pb wr = S.nx := N10.out.nx
        have HME := mhid hme
        clear hme
        go_wp2_with (first
          | (go_at_call 51; (with_reducible refine (now_kind hA (X := X) (n := n) (w := w) (base := base) (pb := pb) (lp := lp) (lc := lc) (ks0 := ks) (s := S) (ks := K) ?_).mono ?_); (first | with_reducible exact N10.out | with_reducible exact N10.out.below ((Below.refl _ _).alloc (Nat.le_refl _) _) | with_reducible exact N10.out.below (Below.refl _ _).drew | with_reducible exact N10.out.below ((Below.refl _ _).drew.alloc (Nat.le_refl _) _) | with_reducible exact N10.out.below (((Below.refl _ _).alloc (Nat.le_refl _) _).drew)); rintro e w11 ⟨rfl, n11, u11⟩; have oo11 := u11.ownI (by first | with_reducible exact OO.out | exact own_more' OO.out (Below.refl _ _).drew | exact own_more' OO.out ((Below.refl _ _).alloc (Nat.le_refl _) _)) (by decide) (by decide); clear OO; have OO := mhid oo11; clear oo11; have N11 := mhid n11; have HR11 := mhid HR10.out; clear n11 u11 N10 HR10)
          | (go_at_call 73; (with_reducible refine (now_take hA (X := X) (n := n) (w := w) (base := base) (pb := pb) (lp := lp) (lc := lc) (ks0 := ks) (s := S) (ks := K) ?_ (56) (by decide)).mono ?_); (first | with_reducible exact N11.out | with_reducible exact N11.out.below ((Below.refl _ _).alloc (Nat.le_refl _) _) | with_reducible exact N11.out.below (Below.refl _ _).drew | with_reducible exact N11.out.below ((Below.refl _ _).drew.alloc (Nat.le_refl _) _) | with_reducible exact N11.out.below (((Below.refl _ _).alloc (Nat.le_refl _) _).drew)); rintro e w12 (h12 | h12); (obtain ⟨er, h2, h3⟩ := h12; have h9 := HR11.out; simp only [h2, Pr_bad] at h9; have h5 := h3; obtain ⟨b9, rfl, -, -, -⟩ := h3; exact And.intro rfl (ft_bad h5 h9)); obtain ⟨s12, t12, r12, rfl, n12, u12⟩ := h12; have oo12 := u12.ownI (by first | with_reducible exact OO.out | exact own_more' OO.out (Below.refl _ _).drew | exact own_more' OO.out ((Below.refl _ _).alloc (Nat.le_refl _) _)) (by decide) (by decide); clear OO; have OO := mhid oo12; clear oo12; have N12 := mhid n12; have h9 := HR11.out; simp only [r12, Pr_ok] at h9; have HR12 := mhid h9; clear h9 HR11; have G12 := mhid (take_nx r12); clear n12 u12 r12 N11)
          | (go_at_call 96; (with_reducible refine (call_give IC.out (X := X) (n := n) (w := w) (base := base) (pb := pb) (lp := lp) (lc := lc) (ks0 := ks) (s := s12) (ks := K) ?_ ?_  ?_).mono ?_); (first | with_reducible exact N12.out | with_reducible exact N12.out.below ((Below.refl _ _).alloc (Nat.le_refl _) _) | with_reducible exact N12.out.below (Below.refl _ _).drew | with_reducible exact N12.out.below ((Below.refl _ _).drew.alloc (Nat.le_refl _) _) | with_reducible exact N12.out.below (((Below.refl _ _).alloc (Nat.le_refl _) _).drew)); (exact (by have zG0 := G0.out; have zG1 := G1.out; have zG2 := G2.out; have zG10 := G10.out; have zG12 := G12.out; omega)); (exact (fun e9 => HN.out (by have h9 := HR12.out; rw [e9] at h9; exact h9.symm))); rintro e w13 (h13 | h13); (obtain ⟨er, h2, h3⟩ := h13; have h9 := HR12.out; simp only [h2, Pr_bad] at h9; have h5 := h3; obtain ⟨b9, rfl, -, -, -⟩ := h3; exact And.intro rfl (ft_bad h5 h9)); obtain ⟨s13, v13, ks13, r13, rfl, n13, u13, gw13⟩ := h13; have oo13 := u13.ownI (by first | with_reducible exact OO.out | exact own_more' OO.out (Below.refl _ _).drew | exact own_more' OO.out ((Below.refl _ _).alloc (Nat.le_refl _) _)) (by decide) (by decide); have ff13 := Fresh.step FF.out gw13 (fun b hb => Nat.lt_of_lt_of_le (own_ltG OO.out hb).1 (by simp)); clear FF; have FF := mhid ff13; clear OO; have OO := mhid oo13; clear oo13; have N13 := mhid n13; have h9 := HR12.out; simp only [r13, Pr_ok] at h9; have HR13 := mhid h9; clear h9 HR12; have G13 := mhid (fr2p rfl rfl r13); simp only [Mt.cr, Mt.pg] at G13; clear n13 u13 r13 N12 gw13)
          | (refine wpList_kid (X := X) (n := n) (w := w) (base := base) (pb := pb) (lp := lp) (lc := lc) (ks0 := ks) (S := s13) (ks := ks13) rfl (.tmp 14) (.tmp 17) rfl N13.out (l) (l.length) (by simp) p c rfl OO.out FF.out (hd v13) rfl (by have zG0 := G0.out; have zG1 := G1.out; have zG2 := G2.out; have zG10 := G10.out; have zG12 := G12.out; have zG13 := G13.out; (try simp only [List.length_append, List.length_cons, List.length_nil]); omega) ?_; intro p14 c14 w14 o14 f14 n14 b14; have N14 := mhid n14; have HR14 := mhid HR13.out; clear OO FF N13 HR13; have OO := mhid o14; have FF := mhid f14; clear n14 o14 f14 b14))
        have hlen : (l ++ [hd v13]).length = l.length + 1 := by simp
        refine ⟨⟨g, l ++ [hd v13], s13, ks13, p14, c14, by rw [hlen], ⟨by omega, HR14.out, N14.out, by rw [hlen]; have h8 := OO.out; rw [hlen] at h8; exact h8, by rw [hlen]; exact FF.out, trivial, (by have zG0 := G0.out; have zG1 := G1.out; have zG2 := G2.out; have zG10 := G10.out; have zG12 := G12.out; have zG13 := G13.out; omega), (by have zG0 := G0.out; have zG1 := G1.out; have zG2 := G2.out; have zG10 := G10.out; have zG12 := G12.out; have zG13 := G13.out; omega), (by have zG0 := G0.out; have zG1 := G1.out; have zG2 := G2.out; have zG10 := G10.out; have zG12 := G12.out; have zG13 := G13.out; rw [hlen]; omega)⟩⟩, ?_⟩
        show n - nxW pb w14 < n - nxW pb wr
        rw [N14.out.nx, HME.out]
        exact (by have zG0 := G0.out; have zG1 := G1.out; have zG2 := G2.out; have zG10 := G10.out; have zG12 := G12.out; have zG13 := G13.out; omega)
      · simp only [if_neg q, Pr_ok] at hR
        have HR10 := mhid hR
        clear hR
        go_wp2_with (first
          | (go_at_call 51; (with_reducible refine (now_kind hA (X := X) (n := n) (w := w) (base := base) (pb := pb) (lp := lp) (lc := lc) (ks0 := ks) (s := S) (ks := K) ?_).mono ?_); (first | with_reducible exact N10.out | with_reducible exact N10.out.below ((Below.refl _ _).alloc (Nat.le_refl _) _) | with_reducible exact N10.out.below (Below.refl _ _).drew | with_reducible exact N10.out.below ((Below.refl _ _).drew.alloc (Nat.le_refl _) _) | with_reducible exact N10.out.below (((Below.refl _ _).alloc (Nat.le_refl _) _).drew)); rintro e w11 ⟨rfl, n11, u11⟩; have oo11 := u11.ownI (by first | with_reducible exact OO.out | exact own_more' OO.out (Below.refl _ _).drew | exact own_more' OO.out ((Below.refl _ _).alloc (Nat.le_refl _) _)) (by decide) (by decide); clear OO; have OO := mhid oo11; clear oo11; have N11 := mhid n11; have HR11 := mhid HR10.out; clear n11 u11 N10 HR10)
          | (go_at_call 78; (with_reducible refine (now_leave hA (X := X) (n := n) (w := w) (base := base) (pb := pb) (lp := lp) (lc := lc) (ks0 := ks) (s := S) (ks := K) ?_ (51) (by decide) ?_).mono ?_); (first | with_reducible exact N11.out | with_reducible exact N11.out.below ((Below.refl _ _).alloc (Nat.le_refl _) _) | with_reducible exact N11.out.below (Below.refl _ _).drew | with_reducible exact N11.out.below ((Below.refl _ _).drew.alloc (Nat.le_refl _) _) | with_reducible exact N11.out.below (((Below.refl _ _).alloc (Nat.le_refl _) _).drew)); (exact (by have zG0 := G0.out; have zG1 := G1.out; have zG2 := G2.out; have zG10 := G10.out; omega)); rintro e w12 (h12 | h12); (obtain ⟨er, h2, h3⟩ := h12; have h9 := HR11.out; simp only [h2, Pr_bad] at h9; have h5 := h3; obtain ⟨b9, rfl, -, -, -⟩ := h3; exact And.intro rfl (ft_bad h5 h9)); obtain ⟨s12, r12, rfl, n12, u12⟩ := h12; have oo12 := u12.ownI (by first | with_reducible exact OO.out | exact own_more' OO.out (Below.refl _ _).drew | exact own_more' OO.out ((Below.refl _ _).alloc (Nat.le_refl _) _)) (by decide) (by decide); clear OO; have OO := mhid oo12; clear oo12; have N12 := mhid n12; have h9 := HR11.out; simp only [r12, Pr_ok] at h9; have HR12 := mhid h9; clear h9 HR11; have G12 := mhid (leave_nx r12); clear n12 u12 r12 N11))
        go_ret
        exact ft_list N12.out HR12.out OO.out FF.out
end Go.Proofs.YtmekcccmnkgodaaGreatDoor
namespace Go.Proofs.YtmekcccmnkgodaaGreatDoor
open Go.ChangeShapes Go.WideShapes Go.ChangeAt Go.RowKit
set_option linter.unusedVariables false
set_option linter.unusedSimpArgs false
set_option maxRecDepth 100000 in
set_option maxHeartbeats 8000000 in
theorem ct_bin {X : Nat → Tk} {n f : Nat} (hA : TkA X n) (ih : ∀ g, g ≤ f → CT X n g) {w : World} {base pb : Nat} {lp : Option Addr} {lc : Nat} {s : St} {ks : List Value} (st : Nat) (h : PS X n w base pb lp lc s ks) (hm : s.md.length + 0 ≤ s.nx) (hp : 1 ≤ st ∧ st ≤ 10) (hne : P X n (f + 1) (.bin st) s ≠ .out) : Calls Tryz.prog 100 #[.pointer (some ⟨pb, 0, none⟩), .int .i64 (st : Int)] w (Ft base pb lp lc n X w ks false (P X n (f + 1) (.bin st) s)) := by
  generalize hR : P X n (f + 1) (.bin st) s = R at hne ⊢
  rw [P_bin] at hR
  have HR0 := mhid hR
  have HN := mhid hne
  have N0 := mhid (Now.start h)
  have IC := mhid (ih f (Nat.le_refl _))
  have G0 := mhid (And.intro hm (And.intro h.p.nx (And.intro h.p.dp hA.hn)))
  have IH := mhid ih
  clear hR hne h ih hm
  by_cases q10 : st = 10
  · subst q10
    have h9 := HR0.out
    rw [if_pos rfl] at h9
    clear HR0
    have HR0 := mhid h9
    clear h9
    go_enter Tryz.func100, Tryz.ntmps100
    go_wp2_with (first
      | (go_at_call 108; (with_reducible refine (call_una IC.out (X := X) (n := n) (w := w) (base := base) (pb := pb) (lp := lp) (lc := lc) (ks0 := ks) (s := s) (ks := ks) ?_ ?_  ?_).mono ?_); (first | with_reducible exact N0.out | with_reducible exact N0.out.below ((Below.refl _ _).alloc (Nat.le_refl _) _) | with_reducible exact N0.out.below (Below.refl _ _).drew | with_reducible exact N0.out.below ((Below.refl _ _).drew.alloc (Nat.le_refl _) _) | with_reducible exact N0.out.below (((Below.refl _ _).alloc (Nat.le_refl _) _).drew)); (exact (by have zG0 := G0.out; omega)); (exact (fun e9 => HN.out (by have h9 := HR0.out; rw [e9] at h9; exact h9.symm))); rintro e w1 (h1 | h1); (obtain ⟨er, h2, h3⟩ := h1; have h9 := HR0.out; simp only [h2, Pr_bad] at h9; have h5 := h3; obtain ⟨b9, rfl, -, -, -⟩ := h3; exact And.intro rfl (ft_bad h5 h9)); obtain ⟨s1, v1, ks1, r1, rfl, n1, u1, gw1⟩ := h1; have N1 := mhid n1; have h9 := HR0.out; simp only [r1, Pr_ok] at h9; have HR1 := mhid h9; clear h9 HR0; have G1 := mhid (fr2 rfl r1); simp only [Mt.cr, Mt.pg] at G1; clear n1 u1 r1 N0 gw1))
    go_ret
    exact ft_place N1.out HR1.out rfl
  have h9 := HR0.out
  rw [if_neg q10] at h9
  clear HR0
  have HR0 := mhid h9
  clear h9
  have hst : 1 ≤ st ∧ st ≤ 9 := by omega
  have HST := mhid hst
  have es : wrap64 ((st : Int) + 1) = (st : Int) + 1 := by unfold wrap64; omega
  have es2 : IntKind.i64.wrap ((st : Int) + 1) = (st : Int) + 1 := by rw [IntKind.wrap_i64]; omega
  have n10 : ¬ ((st : Int) = 10) := by omega
  clear hst hp
  go_enter Tryz.func100, Tryz.ntmps100
  go_wp2_with (first
    | (go_at_call 100; (with_reducible refine (call_binS IC.out st (X := X) (n := n) (w := w) (base := base) (pb := pb) (lp := lp) (lc := lc) (ks0 := ks) (s := s) (ks := ks) ?_ ?_ (by have h8 := HST.out; omega) ?_).mono ?_); (first | with_reducible exact N0.out | with_reducible exact N0.out.below ((Below.refl _ _).alloc (Nat.le_refl _) _) | with_reducible exact N0.out.below (Below.refl _ _).drew | with_reducible exact N0.out.below ((Below.refl _ _).drew.alloc (Nat.le_refl _) _) | with_reducible exact N0.out.below (((Below.refl _ _).alloc (Nat.le_refl _) _).drew)); (exact (by have zG0 := G0.out; omega)); (exact (fun e9 => HN.out (by have h9 := HR0.out; rw [e9] at h9; exact h9.symm))); rintro e w1 (h1 | h1); (obtain ⟨er, h2, h3⟩ := h1; have h9 := HR0.out; simp only [h2, Pr_bad] at h9; have h5 := h3; obtain ⟨b9, rfl, -, -, -⟩ := h3; exact And.intro rfl (ft_bad h5 h9)); obtain ⟨s1, v1, ks1, r1, rfl, n1, u1, gw1⟩ := h1; have N1 := mhid n1; have h9 := HR0.out; simp only [r1, Pr_ok] at h9; have HR1 := mhid h9; clear h9 HR0; have G1 := mhid (fr2 rfl r1); simp only [Mt.cr, Mt.pg] at G1; clear n1 u1 r1 N0 gw1))
  go_loopw [5] (fun v wr => ∃ (g left : Nat) (S : St) (K : List Value), v = .int .i64 (left : Int) ∧ LpB X n w base pb lp lc ks f R st 0 g left S K wr) (fun _ wr => n - nxW pb wr)
  case atStart => exact ⟨f, hd v1, s1, ks1, rfl, ⟨Nat.le_refl _, HR1.out, N1.out, (by have zG0 := G0.out; have zG1 := G1.out; omega)⟩⟩
  case round =>
    obtain ⟨g, left, S, K, rfl, hg, hR, hN, hm1⟩ := hrel
    have hnx := hN.s.p.nx
    have G10 := mhid (And.intro hm1 hnx)
    clear N1 HR1 hm1 hnx
    cases g with
    | zero => exact absurd (show R = .out from hR.symm) HN.out
    | succ g =>
      rw [P_binL] at hR
      have N10 := mhid hN
      clear IC
      have IC := mhid (IH.out g (by omega))
      clear hN
      by_cases q : bindsP (kd X n S) = st
      · have h9 := hR
        rw [if_pos q] at h9
        have HR10 := mhid h9
        clear h9 hR
        have hnz : kd X n S ≠ 0 := by intro e; rw [e] at q; have h8 := HST.out; have h7 : bindsP 0 = 0 := rfl; omega
        have HNZ := mhid hnz
        have hme : nxW pb wr = S.nx := N10.out.nx
        have HME := mhid hme
        have qI : ((bindsP (kd X n S) : Nat) : Int) = (st : Int) := by omega
        clear hnz hme
        go_upto_region 6 with (first
          | (go_at_call 51; (with_reducible refine (now_kind hA (X := X) (n := n) (w := w) (base := base) (pb := pb) (lp := lp) (lc := lc) (ks0 := ks) (s := S) (ks := K) ?_).mono ?_); (first | with_reducible exact N10.out | with_reducible exact N10.out.below ((Below.refl _ _).alloc (Nat.le_refl _) _) | with_reducible exact N10.out.below (Below.refl _ _).drew | with_reducible exact N10.out.below ((Below.refl _ _).drew.alloc (Nat.le_refl _) _) | with_reducible exact N10.out.below (((Below.refl _ _).alloc (Nat.le_refl _) _).drew)); rintro e w11 ⟨rfl, n11, u11⟩; have N11 := mhid n11; have HR11 := mhid HR10.out; clear n11 u11 N10 HR10)
          | (go_at_call 109; (with_reducible refine (binds_any _ _).mono ?_); rintro e w8 ⟨rfl, hw8⟩; subst w8)
          | (go_at_call 51; (with_reducible refine (now_kind hA (X := X) (n := n) (w := w) (base := base) (pb := pb) (lp := lp) (lc := lc) (ks0 := ks) (s := S) (ks := K) ?_).mono ?_); (first | with_reducible exact N11.out | with_reducible exact N11.out.below ((Below.refl _ _).alloc (Nat.le_refl _) _) | with_reducible exact N11.out.below (Below.refl _ _).drew | with_reducible exact N11.out.below ((Below.refl _ _).drew.alloc (Nat.le_refl _) _) | with_reducible exact N11.out.below (((Below.refl _ _).alloc (Nat.le_refl _) _).drew)); rintro e w12 ⟨rfl, n12, u12⟩; have N12 := mhid n12; have HR12 := mhid HR11.out; clear n12 u12 N11 HR11)
          | (go_at_call 73; (with_reducible refine (now_take hA (X := X) (n := n) (w := w) (base := base) (pb := pb) (lp := lp) (lc := lc) (ks0 := ks) (s := S) (ks := K) ?_ (kd X n S) HNZ.out).mono ?_); (first | with_reducible exact N12.out | with_reducible exact N12.out.below ((Below.refl _ _).alloc (Nat.le_refl _) _) | with_reducible exact N12.out.below (Below.refl _ _).drew | with_reducible exact N12.out.below ((Below.refl _ _).drew.alloc (Nat.le_refl _) _) | with_reducible exact N12.out.below (((Below.refl _ _).alloc (Nat.le_refl _) _).drew)); rintro e w13 (h13 | h13); (obtain ⟨er, h2, h3⟩ := h13; have h9 := HR12.out; simp only [h2, Pr_bad] at h9; have h5 := h3; obtain ⟨b9, rfl, -, -, -⟩ := h3; exact And.intro rfl (ft_bad h5 h9)); obtain ⟨s13, t13, r13, rfl, n13, u13⟩ := h13; have N13 := mhid n13; have h9 := HR12.out; simp only [r13, Pr_ok] at h9; have HR13 := mhid h9; clear h9 HR12; have G13 := mhid (take_nx r13); clear n13 u13 r13 N12))
        obtain ⟨wb, hwb⟩ : ∃ wb, w13.alloc (.cells #[.int .i64 t13.kind, .string ⟨t13.text.toArray⟩, .int .u64 (t13.num : Int), .int .i64 t13.line, .int .i64 t13.col] 40) = wb := ⟨_, rfl⟩
        have nb := N13.out.below (W' := wb) (by rw [← hwb]; exact (Below.refl _ _).alloc (Nat.le_refl _) _)
        have bb : wb.heap[w13.heap.size]? = some (.cells #[.int .i64 t13.kind, .string ⟨t13.text.toArray⟩, .int .u64 (t13.num : Int), .int .i64 t13.line, .int .i64 t13.col] 40 (0, 0)) := by rw [← hwb]; exact World.alloc_heap_new _ _
        obtain ⟨x0, x1, x2, x3, x4⟩ := cell_box5 bb
        have BB := mhid bb
        rw [hwb]
        clear hwb bb N13
        have N13 := mhid nb
        clear nb
        go_region_law (first
          | (refine step_fn hfn_bin rfl _ _ rfl _ (by simp [Act.eval, Act.put, es2]) _ (call_binS IC.out st (X := X) (n := n) (w := w) (base := base) (pb := pb) (lp := lp) (lc := lc) (ks0 := ks) (s := s13) (ks := K) (by (first | with_reducible exact N13.out | with_reducible exact N13.out.below ((Below.refl _ _).alloc (Nat.le_refl _) _) | with_reducible exact N13.out.below (Below.refl _ _).drew | with_reducible exact N13.out.below ((Below.refl _ _).drew.alloc (Nat.le_refl _) _) | with_reducible exact N13.out.below (((Below.refl _ _).alloc (Nat.le_refl _) _).drew))) (by have zG0 := G0.out; have zG10 := G10.out; have zG13 := G13.out; omega) (by have h8 := HST.out; omega) (fun e9 => HN.out (by have h9 := HR13.out; rw [e9] at h9; exact h9.symm))) ?_; rintro e w14 (h14 | h14); (obtain ⟨er, h2, h3⟩ := h14; have h9 := HR13.out; simp only [h2, Pr_bad] at h9; have h5 := h3; obtain ⟨b9, rfl, -, -, -⟩ := h3; exact And.intro rfl (ft_bad h5 h9)); obtain ⟨s14, v14, ks14, r14, rfl, n14, u14, gw14⟩ := h14; have bb14 : w14.heap[w13.heap.size]? = some (.cells #[.int .i64 t13.kind, .string ⟨t13.text.toArray⟩, .int .u64 (t13.num : Int), .int .i64 t13.line, .int .i64 t13.col] 40 (0, 0)) := u14.box (by first | with_reducible exact World.alloc_heap_new _ _ | with_reducible exact BB.out | exact (show _ = _ from BB.out) | exact (Below.heap_alloc _ _ _ ((Array.getElem?_eq_some_iff.1 BB.out).1)).trans BB.out) (by decide) (by decide); (try clear x0 x1 x2 x3 x4); obtain ⟨x0, x1, x2, x3, x4⟩ := cell_box5 bb14; (try clear y0 y1 y2 y3 y4); have y0 := fun o => (box_alloc5 bb14 o).1; have y1 := fun o => (box_alloc5 bb14 o).2.1; have y2 := fun o => (box_alloc5 bb14 o).2.2.1; have y3 := fun o => (box_alloc5 bb14 o).2.2.2.1; have y4 := fun o => (box_alloc5 bb14 o).2.2.2.2; (try clear BB); have BB := mhid bb14; clear bb14; have N14 := mhid n14; have h9 := HR13.out; simp only [r14, Pr_ok] at h9; have HR14 := mhid h9; clear h9 HR13; have G14 := mhid (fr2p rfl rfl r14); simp only [Mt.cr, Mt.pg] at G14; clear n14 u14 r14 N13 gw14)
          | (refine step_fn hfn_add rfl _ _ rfl _ (by simp [Act.eval, Act.put, es2]) _ (call_add2 (X := X) (n := n) (w := w) (base := base) (pb := pb) (lp := lp) (lc := lc) (ks0 := ks) (s := s14) (ks := ks14) (by (first | with_reducible exact N14.out | with_reducible exact N14.out.below ((Below.refl _ _).alloc (Nat.le_refl _) _) | with_reducible exact N14.out.below (Below.refl _ _).drew | with_reducible exact N14.out.below (((Below.refl _ _).alloc (Nat.le_refl _) _).drew))) left (hd v14) t13 43 [] 0 0 rfl t13.kind (by have zG0 := G0.out; have zG10 := G10.out; have zG13 := G13.out; have zG14 := G14.out; omega)) ?_; rintro e w15 ⟨rfl, ks15, n15, u15⟩; have bb15 : w15.heap[w13.heap.size]? = some (.cells #[.int .i64 t13.kind, .string ⟨t13.text.toArray⟩, .int .u64 (t13.num : Int), .int .i64 t13.line, .int .i64 t13.col] 40 (0, 0)) := u15.box (by first | with_reducible exact World.alloc_heap_new _ _ | with_reducible exact BB.out | exact (show _ = _ from BB.out) | exact (Below.heap_alloc _ _ _ ((Array.getElem?_eq_some_iff.1 BB.out).1)).trans BB.out) (by decide) (by decide); (try clear x0 x1 x2 x3 x4); obtain ⟨x0, x1, x2, x3, x4⟩ := cell_box5 bb15; (try clear y0 y1 y2 y3 y4); have y0 := fun o => (box_alloc5 bb15 o).1; have y1 := fun o => (box_alloc5 bb15 o).2.1; have y2 := fun o => (box_alloc5 bb15 o).2.2.1; have y3 := fun o => (box_alloc5 bb15 o).2.2.2.1; have y4 := fun o => (box_alloc5 bb15 o).2.2.2.2; (try clear BB); have BB := mhid bb15; clear bb15; have N15 := mhid n15; have HR15 := mhid HR14.out; clear n15 u15 N14))
        all_goals
          by_cases h3 : st = 3
          · have h3I : ((st : Nat) : Int) = 3 := by omega
            have h9 := HR15.out
            simp only [add, Pr_ok, if_pos h3] at h9
            go_wp2
            go_ret
            exact ft_place N15.out h9 rfl
          · have h3I : ¬ ((st : Int) = 3) := by omega
            have h9 := HR15.out
            simp only [add, Pr_ok, if_neg h3] at h9
            have HR9 := mhid h9
            clear h9
            go_wp2
            refine ⟨⟨g, s14.md.length, _, _, rfl, ⟨by omega, HR9.out, N15.out, ?_⟩⟩, ?_⟩
            · show (s14.md ++ [_]).length ≤ s14.nx
              rw [List.length_append]
              show s14.md.length + 1 ≤ s14.nx
              exact (by have zG0 := G0.out; have zG10 := G10.out; have zG13 := G13.out; have zG14 := G14.out; omega)
            · show n - nxW pb w15 < n - nxW pb wr
              rw [N15.out.nx, HME.out]
              show n - s14.nx < n - S.nx
              exact (by have zG0 := G0.out; have zG10 := G10.out; have zG13 := G13.out; have zG14 := G14.out; omega)
      · have h9 := hR
        rw [if_neg q] at h9
        have HR10 := mhid h9
        clear h9 hR
        have qI : ¬ (((bindsP (kd X n S) : Nat) : Int) = (st : Int)) := by omega
        go_wp2_with (first
          | (go_at_call 51; (with_reducible refine (now_kind hA (X := X) (n := n) (w := w) (base := base) (pb := pb) (lp := lp) (lc := lc) (ks0 := ks) (s := S) (ks := K) ?_).mono ?_); (first | with_reducible exact N10.out | with_reducible exact N10.out.below ((Below.refl _ _).alloc (Nat.le_refl _) _) | with_reducible exact N10.out.below (Below.refl _ _).drew | with_reducible exact N10.out.below ((Below.refl _ _).drew.alloc (Nat.le_refl _) _) | with_reducible exact N10.out.below (((Below.refl _ _).alloc (Nat.le_refl _) _).drew)); rintro e w11 ⟨rfl, n11, u11⟩; have N11 := mhid n11; have HR11 := mhid HR10.out; clear n11 u11 N10 HR10)
          | (go_at_call 109; (with_reducible refine (binds_any _ _).mono ?_); rintro e w8 ⟨rfl, hw8⟩; subst w8))
        go_ret
        exact ft_place N11.out HR11.out rfl
end Go.Proofs.YtmekcccmnkgodaaGreatDoor
