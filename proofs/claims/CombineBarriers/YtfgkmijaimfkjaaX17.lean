import Derived.Test.YtfgkmijaimfkjaaX14
namespace Go.Proofs.Ytfgkmijaimfkjaa
open Go.ChangeShapes Go.WideShapes Go.ChangeAt Go.RowKit
set_option linter.unusedVariables false
set_option linter.unusedSimpArgs false
variable {base n : Nat} {B : RB} {R : Rt} {N : Nt}

theorem wai_in {n : Nat} {N : Nt} {x : Int} (h : ¬ (inN n x = true ∧ N.pl x.toNat = 0)) : (if inN n x && (N.pl x.toNat != 0) then N else entN n N x 0) = N := by
  unfold entN
  rw [if_neg h]
  split <;> rfl
theorem wai_out {n : Nat} {N : Nt} {x : Int} (h : inN n x = true ∧ N.pl x.toNat = 0) : (if inN n x && (N.pl x.toNat != 0) then N else entN n N x 0) = entN n N x 0 := by
  rw [h.1, h.2]
  rfl
set_option maxRecDepth 100000 in
set_option maxHeartbeats 1000000 in
theorem rwait_any (h : RL n N R) (hn : n ≤ 64) (x : Int) {k : Nat} (hs : Sm N k) (hk : k < 1000000000000000) (W : World) (hR : RN base n 0 B R W) (hbs : base ≤ W.heap.size) : Calls Try.prog 33 #[.pointer (some ⟨B.rb, 0, none⟩), .int .i64 x, rvA 0] W fun e W' => e = .returned (.tuple #[.bool (waiB J0 n N x), .int .i64 (waiE n N x)]) ∧ ∃ R', RL n (waiN J0 n N x) R' ∧ RC W base n 0 B R' W' := by
  obtain ⟨⟨c0, c1, c2, c3⟩, ⟨c4, c5, c6⟩, c7, c8, c9⟩ := hR.cells
  obtain ⟨⟨l0, l1, l2, l3⟩, l4, l5, l6, l7, l8⟩ := hR.lt
  have hB1 : Below W.heap.size W (W.alloc (.cells #[.int .i64 0, .int .u64 0, .bool false, .bool false, .bool false, .int .u64 0, .int .i64 0, .int .u64 0, .int .i64 0, .int .i64 0] 62)) := (Below.refl _ W).alloc (Nat.le_refl _) _
  have hR1 := hR.later hB1
  have HK := ris_any x _ hR1
  have HR : Hid (RN base n 0 B R W ∧ Below W.heap.size W (W.alloc (.cells #[.int .i64 0, .int .u64 0, .bool false, .bool false, .bool false, .int .u64 0, .int .i64 0, .int .u64 0, .int .i64 0, .int .i64 0] 62)) ∧ base ≤ W.heap.size) := ⟨hR, hB1, hbs⟩
  have HPR : Hid ((∀ w, w < n → N.pl w ≤ 5) ∧ ∀ w, w < n → N.rd w < 1000000000000000000) := ⟨fun w _ => hs.p w, fun w _ => by have := hs.r w; omega⟩
  unfold waiB waiE waiN
  by_cases hq : inN n x = true ∧ N.pl x.toNat = 0
  · rw [wai_out hq]
    obtain ⟨w, hw, rfl⟩ := inN_get hq.1
    obtain ⟨p, c, _, _, k1, _⟩ := hR.tdv hw
    rw [Int.toNat_natCast] at hq
    rw [(h w hw).len.2 hq.2] at k1
    rw [hq.1] at HK
    have i0 : (0 : Int) ≤ (w : Int) := by omega
    have i1 : (w : Int) < (n : Int) := by omega
    have HE := renter_any h hn (w : Int) 0 _ hR1 (Nat.le_trans hbs hB1.size)
    have hs2 := hs.ent (n := n) (w : Int)
    have HS := fun R' (hl : RL n (entN n N (w : Int) 0) R') W' (hr' : RN base n 0 B R' W') => rstep_any hl hn (w : Int) (fun i _ => hs2.p i) (fun i _ => by have := hs2.r i; omega) W' hr'
    unfold rvA at HE ⊢
    clear hR hR1 hB1 hs2
    go_enter Try.func33, Try.ntmps33
    go_wp2_with (first | (go_at_call 63; (with_reducible refine HK.mono ?_); rintro e w1 ⟨rfl, h9⟩; have h8 := h9.symm; subst h8; clear h9) | (go_at_call 27; (with_reducible refine HE.mono ?_); rintro e w2 ⟨rfl, R2, hl2, hc2⟩; have HS2 := HS R2 hl2 w2 hc2.1; have HC2 : Hid (Ch (RS B) (W.alloc (.cells #[.int .i64 0, .int .u64 0, .bool false, .bool false, .bool false, .int .u64 0, .int .i64 0, .int .u64 0, .int .i64 0, .int .i64 0] 62)) w2) := hc2.2; clear hl2 hc2) | (go_at_call 28; (with_reducible refine HS2.mono ?_); rintro e w3 ⟨rfl, R3, hl3, hc3⟩; have HX3 : Hid (RL n (stpN J0 n (entN n N (w : Int) 0) (w : Int)) R3 ∧ RC w2 base n 0 B R3 w3) := ⟨hl3, hc3⟩; clear hl3 hc3))
    go_returns
    exact ⟨rfl, R3, HX3.out.1, HX3.out.2.1, ((Ch.below HR.out.2.1).trans HC2.out).trans HX3.out.2.2⟩
  · rw [wai_in hq]
    have HS := rstep_any h hn x HPR.out.1 HPR.out.2 _ hR1
    unfold rvA
    by_cases hx : inN n x = true
    · obtain ⟨w, hw, rfl⟩ := inN_get hx
      obtain ⟨p, c, _, _, k1, _⟩ := hR.tdv hw
      rw [hx] at HK
      have hl0 : (R.td w).length ≠ 0 := fun e => hq ⟨hx, by rw [Int.toNat_natCast]; exact (h w hw).len.1 e⟩
      have i0 : (0 : Int) ≤ (w : Int) := by omega
      have i1 : (w : Int) < (n : Int) := by omega
      generalize (R.td w).length = r at *
      have hr1 : ((r : Int) == 0) = false := by simp; exact hl0
      have hr2 : (r == 0) = false := by simpa using hl0
      clear hR hR1 hB1
      go_enter Try.func33, Try.ntmps33
      go_wp2_with (first | (go_at_call 63; (with_reducible refine HK.mono ?_); rintro e w1 ⟨rfl, h9⟩; have h8 := h9.symm; subst h8; clear h9) | (go_at_call 28; (with_reducible refine HS.mono ?_); rintro e w3 ⟨rfl, R3, hl3, hc3⟩; have HX3 : Hid (RL n (stpN J0 n N (w : Int)) R3 ∧ RC (W.alloc (.cells #[.int .i64 0, .int .u64 0, .bool false, .bool false, .bool false, .int .u64 0, .int .i64 0, .int .u64 0, .int .i64 0, .int .i64 0] 62)) base n 0 B R3 w3) := ⟨hl3, hc3⟩; clear hl3 hc3))
      go_returns
      exact ⟨rfl, R3, HX3.out.1, HX3.out.2.1, (Ch.below HR.out.2.1).trans HX3.out.2.2⟩
    · rw [Bool.not_eq_true] at hx
      rw [hx] at HK
      clear hR hR1 hB1
      go_enter Try.func33, Try.ntmps33
      go_wp2_with (first | (go_at_call 63; (with_reducible refine HK.mono ?_); rintro e w1 ⟨rfl, h9⟩; have h8 := h9.symm; subst h8; clear h9) | (go_at_call 28; (with_reducible refine HS.mono ?_); rintro e w3 ⟨rfl, R3, hl3, hc3⟩; have HX3 : Hid (RL n (stpN J0 n N x) R3 ∧ RC (W.alloc (.cells #[.int .i64 0, .int .u64 0, .bool false, .bool false, .bool false, .int .u64 0, .int .i64 0, .int .u64 0, .int .i64 0, .int .i64 0] 62)) base n 0 B R3 w3) := ⟨hl3, hc3⟩; clear hl3 hc3))
      go_returns
      exact ⟨rfl, R3, HX3.out.1, HX3.out.2.1, (Ch.below HR.out.2.1).trans HX3.out.2.2⟩
end Go.Proofs.Ytfgkmijaimfkjaa
