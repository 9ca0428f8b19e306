import Derived.Test.YtopggemomcoalaaGreatJTW2
import Derived.Deep.QuietTactic
namespace Go.Proofs.YtopggemomcoalaaGreat
open Go.ChangeShapes Go.WideShapes Go.ChangeAt Go.RowKit
set_option linter.unusedVariables false
set_option linter.unusedSimpArgs false

/-! ### ends -/
def FarP (P : Pg) (T : Nat → Nat) (f x : Nat) : Prop := ∃ k, f ≤ k ∧ T x = jit P k x
theorem FarP.lt {P : Pg} (g : Gd P) {T : Nat → Nat} {f x : Nat} (h : FarP P T f x) (hx : x < P.n) : T x < P.n := by
  obtain ⟨k, _, e⟩ := h
  rw [e]
  exact jit_lt g k hx
theorem FarP.two {P : Pg} {T : Nat → Nat} {f x : Nat} (h : FarP P T f x) (h2 : FarP P T f (T x)) : ∃ k, 2 * f ≤ k ∧ T (T x) = jit P k x := by
  obtain ⟨k1, a1, e1⟩ := h
  obtain ⟨k2, a2, e2⟩ := h2
  exact ⟨k1 + k2, by omega, by rw [e2, jit_add, e1]⟩
theorem FarP.endP {P : Pg} (g : Gd P) {T : Nat → Nat} {f x : Nat} (h : FarP P T f x) (hf : P.n ≤ f) (hx : x < P.n) : endP P x = if P.op (T x) = 35 then x else T x := by
  obtain ⟨k, a1, e1⟩ := h
  rw [e1]
  unfold Go.Proofs.YtopggemomcoalaaGreat.endP
  by_cases h9 : P.op (jit P P.n x) = 35
  · rw [if_pos h9]
    by_cases h8 : P.op (jit P k x) = 35
    · rw [if_pos h8]
    · have := jit_short g hx h8 P.n (Nat.le_refl _)
      rw [this] at h9
      exact absurd h9 h8
  · rw [if_neg h9]
    have e := jit_short g hx h9 k (by omega)
    rw [e, if_neg h9]
def updN (T : Nat → Nat) (k d : Nat) : Nat → Nat := fun i => if i = k then d else T i
theorem own_updN {W : World} {base g c n : Nat} {T : Nat → Nat} (h : Own W base 3 1 (.slice (some ⟨g, 0, none⟩) n c) n (iv fun x => ((T x : Nat) : Int))) (k d : Nat) : Own (W.setCell ⟨g, k, none⟩ (.int .i64 (d : Int))) base 3 1 (.slice (some ⟨g, 0, none⟩) n c) n (iv fun x => ((updN T k d x : Nat) : Int)) := by
  refine (h.put k [.int .i64 (d : Int)]).congr fun j hj => ?_
  unfold putF iv updN
  by_cases h1 : k ≤ j ∧ j < k + 1
  · have e : j = k := by omega
    subst e
    rw [if_pos (by simp)]
    dsimp only
    rw [if_pos rfl]
    simp
  · rw [if_neg (by simpa using h1)]
    dsimp only
    rw [if_neg (by omega)]
theorem own_intc {W : World} {base g c n : Nat} {T : Nat → Nat} (h : Own W base 3 1 (.slice (some ⟨g, 0, none⟩) n c) n (iv fun x => ((T x : Nat) : Int))) {k : Nat} (hk : k < n) : W.cell? ⟨g, k, none⟩ = some (.int .i64 ((T k : Nat) : Int)) ∧ W.frozen? ⟨g, k, none⟩ = false ∧ base ≤ g := by
  obtain ⟨cur, hcur, _⟩ := Own.block h
  exact ⟨h.cell (by omega), frz hcur k, (h.lt g rfl).1⟩
theorem iat_at {W : World} {b o n : Nat} {op a bb : Nat → Int} (h : IAt W (some ⟨b, o, none⟩) n op a bb) {k : Nat} (hk : k < n) : W.cell? ⟨b, o + k * 3, none⟩ = some (.int .i64 (op k)) ∧ W.cell? ⟨b, o + k * 3 + 1, none⟩ = some (.int .i64 (a k)) ∧ W.cell? ⟨b, o + k * 3 + 2, none⟩ = some (.int .i64 (bb k)) := by
  rcases h with h | ⟨b', o', e, _, h⟩
  · omega
  · injection e with e
    injection e with e1 e2
    subst e1 e2
    exact h k hk
theorem iat_pt {W : World} {p : Option Addr} {n : Nat} {op a bb : Nat → Int} (h : IAt W p n op a bb) (hn : 0 < n) : ∃ b o, p = some ⟨b, o, none⟩ := by
  rcases h with h | ⟨b', o', e, _, h⟩
  · omega
  · exact ⟨b', o', e⟩
set_option maxRecDepth 100000 in
set_option maxHeartbeats 8000000 in
theorem cends_any (P : Pg) (g : Gd P) (hn : P.n ≤ 4096) (p : Option Addr) (c : Nat) (W : World) (h : IAt W p P.n P.op P.a P.b) :
    Calls Tryz.prog 82 #[.slice p P.n c] W fun e W' => ∃ q, e = .returned (.slice (some ⟨q, 0, none⟩) P.n P.n) ∧ Own W' W.heap.size 3 1 (.slice (some ⟨q, 0, none⟩) P.n P.n) P.n (iv fun x => ((endP P x : Nat) : Int)) ∧ Below W.heap.size W W' := by
  obtain ⟨i5, hi5, hz0, hz1, hz2⟩ := info_parts infoInt1
  have H0 := tmh (And.intro g (And.intro hn h))
  clear g hn h
  go_enter Tryz.func82, Tryz.ntmps82
  go_wp2_with (at_make; refine wpList_make_full _ rfl (.tmp 10) (.tmp 10) 23 rfl W.heap.size 3 i5 _ 1 Tryz.underlying23 hi5 hz0 hz1 .i64 .i64 P.n P.n P.n rfl rfl rfl rfl ?c1 ?c2 ?c3 ?_)
  case c1 => rw [hz2]; have := H0.out.2.1; omega
  case c2 => unfold maxLen; have := H0.out.2.1; omega
  case c3 => exact Nat.le_refl _
  intro w1 hown hgrow
  have hb1 : Below W.heap.size W w1 := (Below.refl _ _).grown hgrow (Nat.le_refl _) (by simp)
  have hO1 : Own w1 W.heap.size 3 1 (.slice (some ⟨W.heap.size, 0, none⟩) P.n P.n) P.n (iv fun x => (((fun x => if x < 0 then jst P x else 0) x : Nat) : Int)) := (own_of hown).congr fun j hj => by
    have h6 : (Value.int .i64 0).cells.size = 1 := rfl
    unfold madeCells iv
    have hj2 : j < P.n := by omega
    simp [hj2, h6]
    rw [Nat.mod_one]
    rfl
  obtain ⟨B, hB⟩ : ∃ B, B = W.heap.size := ⟨_, rfl⟩
  rw [← hB] at hO1 hb1 ⊢
  have HQ := tmh (And.intro hO1 (And.intro hb1 (And.intro (H0.out.2.2.below (hB ▸ hb1)) (hB ▸ hb1.size : B ≤ w1.heap.size))))
  have HBW := tmh hB
  clear hown hgrow hO1 hb1 hi5 hz0 hz1 hz2 hB
  go_wp2_with fail
  go_loopw [14] (fun x wr => ∃ k : Nat, x = .int .i64 (k : Int) ∧ k ≤ P.n ∧ Own wr B 3 1 (.slice (some ⟨B, 0, none⟩) P.n P.n) P.n (iv fun x => (((fun x => if x < k then jst P x else 0) x : Nat) : Int)) ∧ Below B W wr) (fun x _ => P.n - (intOf x).toNat)
  case atStart => exact ⟨0, rfl, Nat.zero_le _, HQ.out.1, HQ.out.2.1⟩
  case round =>
    obtain ⟨k, rfl, hk, hO, hbr⟩ := hrel
    by_cases hlt : k < P.n
    · have d1 : decide ((k : Int) < (P.n : Int)) = true := by simp; omega
      have d2 : decide (k < P.n) = true := by simp; omega
      have i0 : (0 : Int) ≤ (k : Int) := by omega
      have i1 : (k : Int) < (P.n : Int) := by omega
      have ek : IntKind.i64.wrap ((k : Int) + 1) = ((k + 1 : Nat) : Int) := by have := H0.out.2.1; rw [IntKind.wrap_i64]; omega
      have hm := meas0 hlt
      have hIA : IAt wr p P.n P.op P.a P.b := H0.out.2.2.below (by rw [← HBW.out]; exact hbr)
      obtain ⟨b, o, hp⟩ := iat_pt hIA (by omega)
      subst hp
      obtain ⟨x0, x1, x2⟩ := iat_at hIA hlt
      obtain ⟨w5, hw5⟩ : ∃ w5, wr.alloc (.cells #[.int .i64 (P.op k), .int .i64 (P.a k), .int .i64 (P.b k)] 36) = w5 := ⟨_, rfl⟩
      have HW5 := tmh hw5
      have hb5 : Below wr.heap.size wr w5 := by rw [← hw5]; exact (Below.refl _ wr).alloc (Nat.le_refl _) _
      have hx5 : w5.heap[wr.heap.size]? = some (.cells #[.int .i64 (P.op k), .int .i64 (P.a k), .int .i64 (P.b k)] 36 (0, 0)) := by rw [← hw5]; exact World.alloc_heap_new wr _
      have hO5 := hO.later hb5
      obtain ⟨k0, f0, hBg⟩ := own_intc hO5 hlt
      rw [if_neg (Nat.lt_irrefl k)] at k0
      have c0 : w5.cell? ⟨wr.heap.size, 0, none⟩ = some (.int .i64 (P.op k)) := by unfold World.cell?; rw [hx5]; rfl
      have c1 : w5.cell? ⟨wr.heap.size, 1, none⟩ = some (.int .i64 (P.a k)) := by unfold World.cell?; rw [hx5]; rfl
      have hBr : B < wr.heap.size := (hO.lt B rfl).2
      have n1 : B ≠ wr.heap.size := by omega
      have n2 : wr.heap.size ≠ B := by omega
      have HR := tmh (And.intro hO5 (And.intro (hbr.trans (hb5.mono (Nat.le_of_lt hBr))) hBr))
      clear hIA hw5 hb5 hx5 hO5 hO hbr hk hBr hBg
      go_upto_region 5 with fail
      rw [HW5.out]
      clear x0 x1 x2 HW5
      have hs1 := own_updN HR.out.1 k k
      obtain ⟨k1, f1, _⟩ := own_intc hs1 hlt
      have hb6 : Below B W (w5.setCell ⟨B, k, none⟩ (.int .i64 (k : Int))) := HR.out.2.1.setCell (p := ⟨B, k, none⟩) (Nat.le_refl _) _
      have e35 : (P.op k == 35) = true ∨ (P.op k == 35) = false := by cases (P.op k == 35) <;> simp
      rcases e35 with e35 | e35
      · have hop : P.op k = 35 := by simpa using e35
        obtain ⟨A, hA⟩ : ∃ A : Nat, P.a k = (A : Int) := by
          have := H0.out.1.a k hlt (by rw [hop]; rfl)
          exact ⟨(P.a k).toNat, by omega⟩
        have hs2 := own_updN hs1 k A
        have hb7 : Below B W ((w5.setCell ⟨B, k, none⟩ (.int .i64 (k : Int))).setCell ⟨B, k, none⟩ (.int .i64 (A : Int))) := hb6.setCell (p := ⟨B, k, none⟩) (Nat.le_refl _) _
        have hO9 : Own ((w5.setCell ⟨B, k, none⟩ (.int .i64 (k : Int))).setCell ⟨B, k, none⟩ (.int .i64 (A : Int))) B 3 1 (.slice (some ⟨B, 0, none⟩) P.n P.n) P.n (iv fun x => (((fun x => if x < k + 1 then jst P x else 0) x : Nat) : Int)) := hs2.eqv fun j hj => by
          unfold updN
          by_cases h1 : j = k
          · subst h1
            rw [if_pos rfl]
            show (A : Int) = ((if j < j + 1 then jst P j else 0 : Nat) : Int)
            rw [if_pos (Nat.lt_succ_self j)]
            unfold jst
            rw [if_pos hop, hA, Int.toNat_natCast]
          · rw [if_neg h1, if_neg h1]
            by_cases h2 : j < k
            · simp only [h2, if_true, Nat.lt_succ_of_lt h2]
            · have h3 : ¬ j < k + 1 := by omega
              simp only [h2, h3, if_false]
        have HO9 := tmh (And.intro hO9 hb7)
        rw [hA] at c1
        clear hs1 hs2 hb6 hb7 hO9 hop hA
        go_wp2_with fail
        exact ⟨⟨k + 1, rfl, hlt, HO9.out.1, HO9.out.2⟩, hm⟩
      · have hop : P.op k ≠ 35 := by simpa using e35
        have hO9 : Own (w5.setCell ⟨B, k, none⟩ (.int .i64 (k : Int))) B 3 1 (.slice (some ⟨B, 0, none⟩) P.n P.n) P.n (iv fun x => (((fun x => if x < k + 1 then jst P x else 0) x : Nat) : Int)) := hs1.eqv fun j hj => by
          unfold updN
          by_cases h1 : j = k
          · subst h1
            rw [if_pos rfl]
            show (j : Int) = ((if j < j + 1 then jst P j else 0 : Nat) : Int)
            rw [if_pos (Nat.lt_succ_self j)]
            unfold jst
            rw [if_neg hop]
          · rw [if_neg h1]
            by_cases h2 : j < k
            · simp only [h2, if_true, Nat.lt_succ_of_lt h2]
            · have h3 : ¬ j < k + 1 := by omega
              simp only [h2, h3, if_false]
        have HO9 := tmh (And.intro hO9 hb6)
        clear hs1 hb6 hO9 hop
        go_wp2_with fail
        exact ⟨⟨k + 1, rfl, hlt, HO9.out.1, HO9.out.2⟩, hm⟩
    · have d1 : decide ((k : Int) < (P.n : Int)) = false := by simp; omega
      have d2 : decide (k < P.n) = false := by simp; omega
      obtain rfl : k = P.n := by omega
      have HF := tmh (And.intro (hO.eqv (G := fun x => ((jst P x : Nat) : Int)) fun j hj => by dsimp only; rw [show (if j < P.n then jst P j else 0) = jst P j from if_pos (by omega)]) hbr)
      clear hO hbr hk hlt
      go_wp2_with fail
      go_loopw [6] (fun x wr => ∃ (f : Nat) (F : Nat → Nat), x = .int .i64 (f : Int) ∧ 1 ≤ f ∧ f ≤ 8192 ∧ Own wr B 3 1 (.slice (some ⟨B, 0, none⟩) P.n P.n) P.n (iv fun x => ((F x : Nat) : Int)) ∧ (∀ x, x < P.n → FarP P F f x) ∧ Below B W wr) (fun x _ => P.n - (intOf x).toNat)
      case atStart => exact ⟨1, jst P, rfl, Nat.le_refl _, by omega, HF.out.1, fun x _ => ⟨1, Nat.le_refl _, rfl⟩, HF.out.2⟩
      case round =>
        obtain ⟨f, F, rfl, hf1, hf2, hO, hF, hbr⟩ := hrel
        have HG := tmh (And.intro hO (And.intro hF (And.intro hbr (And.intro hf1 hf2))))
        clear hO hF hbr
        by_cases hlt : f < P.n
        · have d3 : decide ((f : Int) < (P.n : Int)) = true := by simp; omega
          have d4 : decide (f < P.n) = true := by simp; omega
          have e2 : IntKind.i64.wrap ((f : Int) * 2) = ((f * 2 : Nat) : Int) := by rw [IntKind.wrap_i64]; omega
          have hmf : P.n - (intOf (.int .i64 ((f * 2 : Nat) : Int))).toNat < P.n - (intOf (.int .i64 (f : Int))).toNat := by
            show P.n - (((f * 2 : Nat) : Int)).toNat < P.n - ((f : Int)).toNat
            rw [Int.toNat_natCast, Int.toNat_natCast]
            omega
          clear hf1 hf2
          go_wp2_with fail
          go_loopw [40] (fun x wr => ∃ (k : Nat) (T : Nat → Nat), x = .int .i64 (k : Int) ∧ k ≤ P.n ∧ Own wr B 3 1 (.slice (some ⟨B, 0, none⟩) P.n P.n) P.n (iv fun x => ((T x : Nat) : Int)) ∧ (∀ x, x < P.n → FarP P T f x ∧ (x < k → FarP P T (2 * f) x)) ∧ Below B W wr) (fun x _ => P.n - (intOf x).toNat)
          case atStart => exact ⟨0, F, rfl, Nat.zero_le _, HG.out.1, fun x hx => ⟨HG.out.2.1 x hx, fun h => absurd h (Nat.not_lt_zero x)⟩, HG.out.2.2.1⟩
          case round =>
            obtain ⟨k, T, rfl, hk, hO, hT, hbr⟩ := hrel
            by_cases hlt2 : k < P.n
            · have d5 : decide ((k : Int) < (P.n : Int)) = true := by simp; omega
              have d6 : decide (k < P.n) = true := by simp; omega
              have i0 : (0 : Int) ≤ (k : Int) := by omega
              have i1 : (k : Int) < (P.n : Int) := by omega
              have ek : IntKind.i64.wrap ((k : Int) + 1) = ((k + 1 : Nat) : Int) := by have := H0.out.2.1; rw [IntKind.wrap_i64]; omega
              have hm := meas0 hlt2
              obtain ⟨k0, f0, hBg⟩ := own_intc hO hlt2
              have hTk := (hT k hlt2).1.lt H0.out.1 hlt2
              obtain ⟨k1, f1, _⟩ := own_intc hO hTk
              have j0 : (0 : Int) ≤ ((T k : Nat) : Int) := by omega
              have j1 : ((T k : Nat) : Int) < (P.n : Int) := by omega
              have hs := own_updN hO k (T (T k))
              have h2 := FarP.two (hT k hlt2).1 (hT (T k) hTk).1
              have hN : ∀ x, x < P.n → FarP P (updN T k (T (T k))) f x ∧ (x < k + 1 → FarP P (updN T k (T (T k))) (2 * f) x) := fun x hx => by
                unfold FarP updN
                by_cases h1 : x = k
                · subst h1
                  rw [if_pos rfl]
                  obtain ⟨kk, a1, a2⟩ := h2
                  exact ⟨⟨kk, by omega, a2⟩, fun _ => ⟨kk, a1, a2⟩⟩
                · rw [if_neg h1]
                  exact ⟨(hT x hx).1, fun h9 => (hT x hx).2 (by omega)⟩
              have hb2 : Below B W (wr.setCell ⟨B, k, none⟩ (.int .i64 ((T (T k) : Nat) : Int))) := hbr.setCell (p := ⟨B, k, none⟩) (Nat.le_refl _) _
              have HS := tmh (And.intro hs (And.intro hN hb2))
              clear hs h2 hN hb2 hTk hT hO hbr hk
              go_wp2_with fail
              try go_region
              exact ⟨⟨k + 1, updN T k (T (T k)), rfl, hlt2, HS.out.1, HS.out.2.1, HS.out.2.2⟩, hm⟩
            · have d5 : decide ((k : Int) < (P.n : Int)) = false := by simp; omega
              have d6 : decide (k < P.n) = false := by simp; omega
              have HE := tmh (And.intro hO (And.intro (fun x (hx : x < P.n) => (hT x hx).2 (by omega)) hbr))
              clear hO hT hbr hk hlt2
              go_wp2_with fail
              exact ⟨⟨f * 2, T, rfl, by have := HG.out.2.2.2.1; omega, by have := H0.out.2.1; omega, HE.out.1, fun x hx => by rw [Nat.mul_comm]; exact HE.out.2.1 x hx, HE.out.2.2⟩, hmf⟩
        · have d3 : decide ((f : Int) < (P.n : Int)) = false := by simp; omega
          have d4 : decide (f < P.n) = false := by simp; omega
          have HFE := tmh (fun x (hx : x < P.n) => (HG.out.2.1 x hx).endP H0.out.1 (by omega) hx)
          have HFL := tmh (fun x (hx : x < P.n) => (HG.out.2.1 x hx).lt H0.out.1 hx)
          clear hf1 hf2 hlt
          go_wp2_with fail
          go_loopw [56] (fun x wr => ∃ (k : Nat), x = .int .i64 (k : Int) ∧ k ≤ P.n ∧ Own wr B 3 1 (.slice (some ⟨B, 0, none⟩) P.n P.n) P.n (iv fun x => (((fun x => if x < k then endP P x else F x) x : Nat) : Int)) ∧ Below B W wr) (fun x _ => P.n - (intOf x).toNat)
          case atStart => exact ⟨0, rfl, Nat.zero_le _, HG.out.1.eqv fun j hj => by dsimp only; rw [show (if j < 0 then endP P j else F j) = F j from if_neg (Nat.not_lt_zero j)], HG.out.2.2.1⟩
          case round =>
            obtain ⟨k, rfl, hk, hO, hbr⟩ := hrel
            by_cases hlt2 : k < P.n
            · have d5 : decide ((k : Int) < (P.n : Int)) = true := by simp; omega
              have d6 : decide (k < P.n) = true := by simp; omega
              have i0 : (0 : Int) ≤ (k : Int) := by omega
              have i1 : (k : Int) < (P.n : Int) := by omega
              have ek : IntKind.i64.wrap ((k : Int) + 1) = ((k + 1 : Nat) : Int) := by have := H0.out.2.1; rw [IntKind.wrap_i64]; omega
              have hm := meas0 hlt2
              obtain ⟨k0, f0, hBg⟩ := own_intc hO hlt2
              rw [if_neg (Nat.lt_irrefl k)] at k0
              have hFk := HFL.out k hlt2
              have j0 : (0 : Int) ≤ ((F k : Nat) : Int) := by omega
              have j1 : ((F k : Nat) : Int) < (P.n : Int) := by omega
              have hIA : IAt wr p P.n P.op P.a P.b := H0.out.2.2.below (by rw [← HBW.out]; exact hbr)
              obtain ⟨b, o, hp⟩ := iat_pt hIA (by omega)
              subst hp
              obtain ⟨x0, x1, x2⟩ := iat_at hIA hFk
              have hE := HFE.out k hlt2
              rcases (by cases (P.op (F k) == 35) <;> simp : (P.op (F k) == 35) = true ∨ (P.op (F k) == 35) = false) with e35 | e35
              · have hop : P.op (F k) = 35 := by simpa using e35
                rw [if_pos hop] at hE
                have hs := own_updN hO k k
                have hO9 : Own (wr.setCell ⟨B, k, none⟩ (.int .i64 (k : Int))) B 3 1 (.slice (some ⟨B, 0, none⟩) P.n P.n) P.n (iv fun x => (((fun x => if x < k + 1 then endP P x else F x) x : Nat) : Int)) := hs.eqv fun j hj => by
                  unfold updN
                  by_cases h1 : j = k
                  · subst h1
                    rw [if_pos rfl]
                    show (j : Int) = ((if j < j + 1 then endP P j else F j : Nat) : Int)
                    rw [if_pos (Nat.lt_succ_self j), hE]
                  · rw [if_neg h1]
                    by_cases h2 : j < k
                    · simp only [h2, if_true, Nat.lt_succ_of_lt h2]
                    · have h3 : ¬ j < k + 1 := by omega
                      simp only [h2, h3, if_false]
                have hb2 : Below B W (wr.setCell ⟨B, k, none⟩ (.int .i64 (k : Int))) := hbr.setCell (p := ⟨B, k, none⟩) (Nat.le_refl _) _
                have HS := tmh (And.intro hO9 hb2)
                clear hs hO9 hb2 hop hE hFk hIA hO hbr hk
                go_wp2_with fail
                exact ⟨⟨k + 1, rfl, hlt2, HS.out.1, HS.out.2⟩, hm⟩
              · have hop : P.op (F k) ≠ 35 := by simpa using e35
                rw [if_neg hop] at hE
                have hO9 : Own wr B 3 1 (.slice (some ⟨B, 0, none⟩) P.n P.n) P.n (iv fun x => (((fun x => if x < k + 1 then endP P x else F x) x : Nat) : Int)) := hO.eqv fun j hj => by
                  by_cases h1 : j = k
                  · subst h1
                    show ((if j < j then endP P j else F j : Nat) : Int) = ((if j < j + 1 then endP P j else F j : Nat) : Int)
                    rw [if_pos (Nat.lt_succ_self j), hE, if_neg (Nat.lt_irrefl j)]
                  · by_cases h2 : j < k
                    · simp only [h2, if_true, Nat.lt_succ_of_lt h2]
                    · have h3 : ¬ j < k + 1 := by omega
                      simp only [h2, h3, if_false]
                have HS := tmh (And.intro hO9 hbr)
                clear hO9 hop hE hFk hIA hO hbr hk
                go_wp2_with fail
                exact ⟨⟨k + 1, rfl, hlt2, HS.out.1, HS.out.2⟩, hm⟩
            · have d5 : decide ((k : Int) < (P.n : Int)) = false := by simp; omega
              have d6 : decide (k < P.n) = false := by simp; omega
              obtain rfl : k = P.n := by omega
              have HS := tmh (And.intro (hO.eqv (G := fun x => ((endP P x : Nat) : Int)) fun j hj => by dsimp only; rw [show (if j < P.n then endP P j else F j) = endP P j from if_pos (by omega)]) hbr)
              clear hO hbr hk hlt2
              go_wp2_with fail
              go_ret
              exact ⟨B, rfl, by rw [← HBW.out]; exact HS.out.1, by rw [← HBW.out]; exact HS.out.2⟩
end Go.Proofs.YtopggemomcoalaaGreat
namespace Go.Proofs.YtopggemomcoalaaGreat
open Go.ChangeShapes Go.WideShapes Go.ChangeAt Go.RowKit
set_option linter.unusedVariables false
set_option linter.unusedSimpArgs false

/-! ### shorten -/
variable {Sf : Nat → Prop} {Hf : Nat → Option Obj} {base tb : Nat} {P : Pg} {cp ep : Option Addr} {cc ec : Nat}
theorem TD.iat {W : World} (h : TD Sf Hf W base tb P cp ep cc ec) : IAt W cp P.n P.op P.a P.b := by
  by_cases hn : P.n = 0
  · exact .inl hn
  · obtain ⟨g, rfl⟩ := h.ip (by omega)
    exact iat_own h.cd
theorem TD.kat {W : World} (h : TD Sf Hf W base tb P cp ep cc ec) : KAt W ep P.m P.en := by
  by_cases hm : P.m = 0
  · exact .inl hm
  · obtain ⟨g, rfl⟩ := h.ePt (by omega)
    refine .inr ⟨g, 0, rfl, (h.en.lt g rfl).2, fun j hj => ?_⟩
    rw [Nat.zero_add]
    exact h.en.cell (by omega)
set_option maxRecDepth 100000 in
set_option maxHeartbeats 8000000 in
theorem shorten_any {L : Nat → Int} (v : Vf P L) (W : World) (h : TD Sf Hf W base tb P cp ep cc ec) (hB : base ≤ W.heap.size) :
    Calls Tryz.prog 40 #[.pointer (some ⟨tb, 0, none⟩)] W fun e W' => e = .returned (.tuple #[]) ∧ TD Sf Hf W' base tb (shP P) cp ep cc ec ∧ Below base W W' := by
  have HV := tmh (And.intro v (And.intro h hB))
  have HE := cends_any P v.gd v.sz.2.2.1 cp cc W h.iat
  obtain ⟨y0, y1, y2, y3⟩ := h.cells
  clear v h hB
  go_enter Tryz.func40, Tryz.ntmps40
  go_upto_region 1 with (first
    | (go_at_call 82; (with_reducible refine HE.mono ?_); rintro e w1 ⟨q, rfl, ho, hb1⟩; have HL := lead_any (t := endP P) w1 (HV.out.2.1.later hb1) ho (fun k h1 h2 => by have := (HV.out.2.1.en.lt k h1).2; have := (ho.lt k h2).1; omega) HV.out.1.gd.a (fun j hj => by have := HV.out.1.en j hj; omega) ⟨HV.out.1.sz.2.2.1, HV.out.1.sz.2.2.2⟩ (Nat.le_trans HV.out.2.2 hb1.size); have HB1 := tmh hb1; clear hb1 ho HE)
    | (go_at_call 81; (with_reducible refine HL.mono ?_); rintro e w2 ⟨rfl, hT2, hb2⟩; have H2 := tmh (And.intro hT2 ((HB1.out.mono HV.out.2.2).trans hb2)); clear hT2 hb2 HL HB1 y0 y1 y2 y3; have z2 : w2.cell? ⟨tb, 2, none⟩ = some (.slice cp P.n cc) := H2.out.1.cells.2.2.1))
  go_wp2_with fail
  go_loopw [18] (fun x wr => ∃ k : Nat, x = .int .i64 (k : Int) ∧ k ≤ P.n ∧ TD Sf Hf wr base tb (stpN (leadP P (endP P)) k) cp ep cc ec ∧ Below base W wr) (fun x _ => P.n - (intOf x).toNat)
  case atStart => exact ⟨0, rfl, Nat.zero_le _, H2.out.1, H2.out.2⟩
  case round =>
    obtain ⟨k, rfl, hk, hT, hbr⟩ := hrel
    obtain ⟨sn, sm, sw, sl, se⟩ := stpN_n (leadP P (endP P)) k
    have hvk := (stpN_vf (lead_gd HV.out.1) k hk).1
    have y2 : wr.cell? ⟨tb, 2, none⟩ = some (.slice cp P.n cc) := by have := hT.cells.2.2.1; rw [sn] at this; exact this
    clear z2
    by_cases hlt : k < P.n
    · have d1 : decide ((k : Int) < (P.n : Int)) = true := by simp; omega
      have d2 : decide (k < P.n) = true := by simp; omega
      have i0 : (0 : Int) ≤ (k : Int) := by omega
      have i1 : (k : Int) < (P.n : Int) := by omega
      have ek : IntKind.i64.wrap ((k : Int) + 1) = ((k + 1 : Nat) : Int) := by have := HV.out.1.sz.2.2.1; rw [IntKind.wrap_i64]; omega
      have hm := meas0 hlt
      have hlt2 : k < (stpN (leadP P (endP P)) k).n := by rw [sn]; exact hlt
      have hst : stpN (leadP P (endP P)) (k + 1) = stp1 (stpN (leadP P (endP P)) k) k := rfl
      rw [show (leadP P (endP P)).n = P.n from rfl] at sn
      have HST := tmh hst
      generalize stpN (leadP P (endP P)) k = S at hT sn sm sw sl se hvk hlt2 HST
      obtain ⟨g, hg⟩ := hT.ip (by omega)
      subst hg
      have hI := hT.ins (k := k) hlt2
      obtain ⟨⟨x0, x1, x2⟩, hfz⟩ := hI
      obtain ⟨w5, hw5⟩ : ∃ w5, wr.alloc (.cells #[.int .i64 (S.op k), .int .i64 (S.a k), .int .i64 (S.b k)] 36) = w5 := ⟨_, rfl⟩
      have HW5 := tmh hw5
      have hb5 : Below wr.heap.size wr w5 := by rw [← hw5]; exact (Below.refl _ wr).alloc (Nat.le_refl _) _
      have hx5 : w5.heap[wr.heap.size]? = some (.cells #[.int .i64 (S.op k), .int .i64 (S.a k), .int .i64 (S.b k)] 36 (0, 0)) := by rw [← hw5]; exact World.alloc_heap_new wr _
      have hT5 := hT.later hb5
      have c0 : w5.cell? ⟨wr.heap.size, 0, none⟩ = some (.int .i64 (S.op k)) := by unfold World.cell?; rw [hx5]; rfl
      have c1 : w5.cell? ⟨wr.heap.size, 1, none⟩ = some (.int .i64 (S.a k)) := by unfold World.cell?; rw [hx5]; rfl
      have hBW : base ≤ wr.heap.size := Nat.le_trans HV.out.2.2 hbr.size
      have H5 := tmh (And.intro hT5 (And.intro (hbr.trans (hb5.mono hBW)) (And.intro hvk (And.intro sn (Nat.le_trans hBW hb5.size)))))
      have u2 : w5.cell? ⟨tb, 2, none⟩ = some (.slice (some ⟨g, 0, none⟩) P.n cc) := by have := hT5.cells.2.2.1; rw [sn] at this; exact this
      clear hT hT5 hvk hw5 hb5 hx5 hbr hk sn sm sw sl se hfz
      go_upto_region 4 with fail
      rw [HW5.out]
      clear x0 x1 x2 y2 HW5
      rcases (by cases (S.op k == 35) <;> simp : (S.op k == 35) = true ∨ (S.op k == 35) = false) with e35 | e35
      · have hop : S.op k = 35 := by simpa using e35
        obtain ⟨A, hA, hAn⟩ : ∃ A : Nat, S.a k = (A : Int) ∧ A < S.n := by
          have := H5.out.2.2.1.gd.a k hlt2 (by rw [hop]; rfl)
          exact ⟨(S.a k).toNat, by omega, by omega⟩
        have hI2 := H5.out.1.ins (k := A) hAn
        have v0 : w5.cell? ⟨g, A * 3, none⟩ = some (.int .i64 (S.op A)) := hI2.1.1
        have j0 : (0 : Int) ≤ (A : Int) := by omega
        have j1 : (A : Int) < (P.n : Int) := by have := H5.out.2.2.2.1; omega
        have HOP := tmh (And.intro hop hA)
        rw [hA] at c1
        clear hI2 hop hA
        rcases (by cases (S.op A == 0) <;> simp : (S.op A == 0) = true ∨ (S.op A == 0) = false) with e0 | e0
        · have hst2 : stp1 S k = setI S k 0 0 0 := if_pos ⟨HOP.out.1, by rw [HOP.out.2, Int.toNat_natCast]; simpa using e0⟩
          have HS2 := tmh hst2
          clear hst2
          go_quiet (fail)
          generalize hw6 : World.drewN w5 _ = w6
          have hb6 : Below w5.heap.size w5 w6 := by rw [← hw6]; exact below_drewNq _ _ _
          have H6 := tmh (And.intro (H5.out.1.later hb6) (H5.out.2.1.trans (hb6.mono H5.out.2.2.2.2)))
          clear hw6 hb6 c0 c1 u2 v0
          have u2 : w6.cell? ⟨tb, 2, none⟩ = some (.slice (some ⟨g, 0, none⟩) P.n cc) := by have := H6.out.1.cells.2.2.1; rw [H5.out.2.2.2.1] at this; exact this
          obtain ⟨⟨x0, x1, x2⟩, hfz⟩ := H6.out.1.ins (k := k) hlt2
          have f0 := hfz (k * 3)
          have f1 := hfz (k * 3 + 1)
          have f2 := hfz (k * 3 + 2)
          clear hfz
          have hTS := H6.out.1.setI k 0 0 0
          have e3 : ((w6.setCell ⟨g, k * 3, none⟩ (.int .i64 0)).setCell ⟨g, k * 3 + 1, none⟩ (.int .i64 0)).setCell ⟨g, k * 3 + 2, none⟩ (.int .i64 0) = w6.setCells g (k * 3) [.int .i64 0, .int .i64 0, .int .i64 0] := rfl
          rw [← e3] at hTS
          have hb7 : Below base W (((w6.setCell ⟨g, k * 3, none⟩ (.int .i64 0)).setCell ⟨g, k * 3 + 1, none⟩ (.int .i64 0)).setCell ⟨g, k * 3 + 2, none⟩ (.int .i64 0)) := ((H6.out.2.setCell (p := ⟨g, k * 3, none⟩) H6.out.1.gb.1 _).setCell (p := ⟨g, k * 3 + 1, none⟩) H6.out.1.gb.1 _).setCell (p := ⟨g, k * 3 + 2, none⟩) H6.out.1.gb.1 _
          have HS7 := tmh (And.intro hTS hb7)
          clear hTS hb7 e3
          go_wp2_with fail
          exact ⟨⟨k + 1, rfl, hlt, by rw [HST.out, HS2.out]; exact HS7.out.1, HS7.out.2⟩, hm⟩
        · have hst2 : stp1 S k = S := if_neg (fun h9 => by have h8 := h9.2; rw [HOP.out.2, Int.toNat_natCast] at h8; rw [h8] at e0; cases e0)
          have HS2 := tmh hst2
          clear hst2
          go_quiet (fail)
          generalize hw6 : World.drewN w5 _ = w6
          have hb6 : Below w5.heap.size w5 w6 := by rw [← hw6]; exact below_drewNq _ _ _
          have H6 := tmh (And.intro (H5.out.1.later hb6) (H5.out.2.1.trans (hb6.mono H5.out.2.2.2.2)))
          clear hw6 hb6 c0 c1 u2 v0
          go_wp2_with fail
          exact ⟨⟨k + 1, rfl, hlt, by rw [HST.out, HS2.out]; exact H6.out.1, H6.out.2⟩, hm⟩
      · have hst2 : stp1 S k = S := if_neg (fun h9 => by rw [h9.1] at e35; cases e35)
        have HS2 := tmh hst2
        clear hst2
        go_quiet (fail)
        generalize hw6 : World.drewN w5 _ = w6
        have hb6 : Below w5.heap.size w5 w6 := by rw [← hw6]; exact below_drewNq _ _ _
        have H6 := tmh (And.intro (H5.out.1.later hb6) (H5.out.2.1.trans (hb6.mono H5.out.2.2.2.2)))
        clear hw6 hb6 c0 c1 u2
        go_wp2_with fail
        exact ⟨⟨k + 1, rfl, hlt, by rw [HST.out, HS2.out]; exact H6.out.1, H6.out.2⟩, hm⟩
    · have d1 : decide ((k : Int) < (P.n : Int)) = false := by simp; omega
      have d2 : decide (k < P.n) = false := by simp; omega
      obtain rfl : k = P.n := by omega
      have HS := tmh (And.intro hT hbr)
      clear hT hbr hk hlt hvk sn sm sw sl se
      go_wp2_with fail
      go_end0
      exact ⟨rfl, HS.out.1, HS.out.2⟩
end Go.Proofs.YtopggemomcoalaaGreat
