import Derived.Test.YtmekcccmnkgodaaGreatDoorFGPI
namespace Go.Proofs.YtmekcccmnkgodaaGreatDoor
open Go.ChangeShapes Go.WideShapes Go.ChangeAt Go.RowKit
set_option linter.unusedVariables false
set_option linter.unusedSimpArgs false
set_option maxRecDepth 100000 in
set_option maxHeartbeats 4000000 in
theorem ct_scene {X : Nat → Tk} {n f : Nat} (hn16 : n ≤ 16384) (ih : 0 < n → ∀ g, CT X n g) {w : World} {base pb : Nat} {lp : Option Addr} {lc : Nat} {s : St} {ks : List Value} (h : PS X n w base pb lp lc s ks) (hm : s.md.length + 0 ≤ s.nx) (hne : P X n (f + 1) (.scene) s ≠ .out) : Calls Tryz.prog 22 #[.pointer (some ⟨pb, 0, none⟩)] w (Ft base pb lp lc n X w ks false (P X n (f + 1) (.scene) s)) := by
  generalize hR : P X n (f + 1) (.scene) s = R at hne ⊢
  rw [P_scene] at hR
  have HR0 := mhid hR
  have HN := mhid hne
  have N0 := mhid (Now.start h)
  have G0 := mhid (And.intro hm (And.intro h.p.nx (And.intro h.p.dp hn16)))
  have IH := mhid ih
  clear hR hne h ih hm
  go_enter Tryz.func22, Tryz.ntmps22
  go_wp2
  go_loopw [3] (fun v wr => ∃ (g : Nat) (l : List Nat) (S : St) (K : List Value) (p : Option Addr) (c : Nat), v = .slice p l.length c ∧ LpI X n w base pb lp lc ks f R (fun s1 l1 => .ok s1 l1) .sceneL (fun _ => True) s.dp g l S K p c wr) (fun _ wr => n - nxW pb wr)
  case atStart => exact ⟨f, [], s, ks, none, 0, rfl, ⟨Nat.le_refl _, (by have h9 := HR0.out; rw [h9]; cases R <;> rfl), N0.out, own_nil0 _ _, fresh_nil _, trivial, (by have zG0 := G0.out; omega), rfl, by simp⟩⟩
  case round =>
    obtain ⟨g, l, S, K, p, c, rfl, hg, hR, hN, hO, hF, -, hm1, hm2, hm3⟩ := hrel
    have hnx := hN.s.p.nx
    have G10 := mhid (And.intro hm1 (And.intro hm2 (And.intro hm3 hnx)))
    obtain ⟨mv, hbk, _⟩ := hN.s.p.blk
    obtain ⟨p0, p1, p2, p3⟩ := cell_box4 hbk
    clear N0 HR0 hm1 hm2 hm3 hbk
    cases g with
    | zero => exact absurd (show R = .out from hR.symm) HN.out
    | succ g =>
      rw [P_sceneL] at hR
      have OO := mhid hO
      have FF := mhid hF
      have hme : nxW pb wr = S.nx := hN.nx
      have HME := mhid hme
      have nd := hN.below (W' := wr.drew) (Below.refl _ _).drew
      have N10 := mhid nd
      have od := own_more' hO (Below.refl _ wr).drew
      clear OO
      have OO := mhid (show Own wr.drew w.heap.size 3 1 (.slice p l.length c) l.length (kF l) from od)
      clear hO hF hN hme nd od
      by_cases q : S.nx < n
      · simp only [if_pos q] at hR
        have HR10 := mhid hR
        have IC := mhid (IH.out (Nat.lt_of_le_of_lt (Nat.zero_le _) q) g)
        clear hR hnx
        have d1 : decide ((S.nx : Int) < (n : Int)) = true := decide_eq_true (by omega)
        have d2 : decide (S.nx < n) = true := decide_eq_true q
        go_wp2
        go_region
        clear p0 p1 p2 p3
        go_wp2_with (first
          | (go_at_call 35; (with_reducible refine (call_item IC.out (X := X) (n := n) (w := w) (base := base) (pb := pb) (lp := lp) (lc := lc) (ks0 := ks) (s := S) (ks := K) ?_ ?_  ?_).mono ?_); (first | with_reducible exact N10.out | with_reducible exact N10.out.below ((Below.refl _ _).alloc (Nat.le_refl _) _) | with_reducible exact N10.out.below (Below.refl _ _).drew | with_reducible exact N10.out.below ((Below.refl _ _).drew.alloc (Nat.le_refl _) _) | with_reducible exact N10.out.below (((Below.refl _ _).alloc (Nat.le_refl _) _).drew)); (exact (by have zG0 := G0.out; have zG10 := G10.out; omega)); (exact (fun e9 => HN.out (by have h9 := HR10.out; rw [e9] at h9; exact h9.symm))); rintro e w11 (h11 | h11); (obtain ⟨er, h2, h3⟩ := h11; have h9 := HR10.out; simp only [h2, Pr_bad] at h9; have h5 := h3; obtain ⟨b9, rfl, -, -, -⟩ := h3; exact And.intro rfl (ft_bad h5 h9)); obtain ⟨s11, v11, ks11, r11, rfl, n11, u11, gw11⟩ := h11; have oo11 := u11.ownI (by first | with_reducible exact OO.out | exact own_more' OO.out (Below.refl _ _).drew | exact own_more' OO.out ((Below.refl _ _).alloc (Nat.le_refl _) _)) (by decide) (by decide); have ff11 := Fresh.step FF.out gw11 (fun b hb => Nat.lt_of_lt_of_le (own_ltG OO.out hb).1 (by simp)); clear FF; have FF := mhid ff11; clear OO; have OO := mhid oo11; clear oo11; have N11 := mhid n11; have h9 := HR10.out; simp only [r11, Pr_ok] at h9; have HR11 := mhid h9; clear h9 HR10; have G11 := mhid (fr2p rfl rfl r11); simp only [Mt.cr, Mt.pg] at G11; clear n11 u11 r11 N10 gw11)
          | (refine wpList_kid (X := X) (n := n) (w := w) (base := base) (pb := pb) (lp := lp) (lc := lc) (ks0 := ks) (S := s11) (ks := ks11) rfl (.tmp 14) (.tmp 17) rfl N11.out (l) (l.length) (by simp) p c rfl OO.out FF.out (hd v11) rfl (by have zG0 := G0.out; have zG10 := G10.out; have zG11 := G11.out; (try simp only [List.length_append, List.length_cons, List.length_nil]); omega) ?_; intro p12 c12 w12 o12 f12 n12 b12; have N12 := mhid n12; have HR12 := mhid HR11.out; clear OO FF N11 HR11; have OO := mhid o12; have FF := mhid f12; clear n12 o12 f12 b12))
        have hlen : (l ++ [hd v11]).length = l.length + 1 := by simp
        refine ⟨⟨g, l ++ [hd v11], s11, ks11, p12, c12, by rw [hlen], ⟨by omega, HR12.out, N12.out, by rw [hlen]; have h8 := OO.out; rw [hlen] at h8; exact h8, by rw [hlen]; exact FF.out, trivial, (by have zG0 := G0.out; have zG10 := G10.out; have zG11 := G11.out; omega), (by have zG0 := G0.out; have zG10 := G10.out; have zG11 := G11.out; omega), (by have zG0 := G0.out; have zG10 := G10.out; have zG11 := G11.out; rw [hlen]; omega)⟩⟩, ?_⟩
        show n - nxW pb w12 < n - nxW pb wr
        rw [N12.out.nx, HME.out]
        exact (by have zG0 := G0.out; have zG10 := G10.out; have zG11 := G11.out; omega)
      · simp only [if_neg q] at hR
        have HR10 := mhid hR
        clear hR
        have d1 : decide ((S.nx : Int) < (n : Int)) = false := decide_eq_false (by omega)
        have d2 : decide (S.nx < n) = false := decide_eq_false q
        go_wp2
        go_region
        clear p0 p1 p2 p3
        go_wp2_with (go_at_call 36; (with_reducible refine (call_addS (X := X) (n := n) (w := w) (base := base) (pb := pb) (lp := lp) (lc := lc) (ks0 := ks) (s := S) (ks := K) ?_ l (.slice p l.length c) OO.out FF.out ?_).mono ?_); (with_reducible exact N10.out); (exact (by have zG0 := G0.out; have zG10 := G10.out; omega)); rintro e w11 ⟨rfl, ks11, n11, u11⟩; have N11 := mhid n11; clear n11 u11)
        go_ret
        exact ft_place N11.out (by have h9 := HR10.out; exact h9) rfl
end Go.Proofs.YtmekcccmnkgodaaGreatDoor
