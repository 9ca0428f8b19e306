import Derived.Test.YtomjnncgogkglaaTPS0
import Derived.ChangeOld
namespace Go.Proofs.Ytomjnncgogkglaa
open Go.ChangeShapes Go.WideShapes Go.ChangeAt Go.RowKit
set_option linter.unusedVariables false
set_option linter.unusedSimpArgs false

def inL (x : Int) : List Value := [.int .i64 x]
theorem inL_len (L : List Int) : (L.flatMap inL).length = L.length := by rw [fmA_len (k := 1) (fun _ => rfl), Nat.mul_one]
theorem inL_one (L : List Int) : ∀ u ∈ L.flatMap inL, u.oneCell' = true := fun u hu => by
  obtain ⟨x, _, hx⟩ := List.mem_flatMap.1 hu
  simp [inL] at hx
  subst hx
  rfl
def itA (L : List Int) (j : Nat) : Int := L.getD j 0
theorem itA_some {L : List Int} {j : Nat} (h : j < L.length) : L[j]? = some (itA L j) := by
  unfold itA
  rw [List.getD_eq_getElem?_getD, List.getElem?_eq_getElem h]
  rfl
theorem rowI_cell {W : World} {base g c : Nat} {L : List Int} (h : W.ownsRow base 3 1 (.slice (some ⟨g, 0, none⟩) L.length c) L.length (L.flatMap inL)) {j : Nat} (hj : j < L.length) : W.cell? ⟨g, j, none⟩ = some (.int .i64 (itA L j)) := by
  have := h.cells (g := g) rfl j (.int .i64 (itA L j)) (by
    have := fmA (enc := inL) (k := 1) (fun _ => rfl) L j (itA L j) 0 (by decide) (itA_some hj)
    simpa [inL] using this)
  rw [addr_add0, Nat.zero_add] at this
  exact this
theorem rowI_sub {W : World} {base g c : Nat} {L : List Int} (h : W.ownsRow base 3 1 (.slice (some ⟨g, 0, none⟩) L.length c) L.length (L.flatMap inL)) (a : Nat) : (∀ j u, ((L.take a).flatMap inL)[j]? = some u → W.cell? ((⟨g, 0, none⟩ : Addr).add j) = some u) ∧ (a ≤ L.length → ∀ j u, ((L.drop a).flatMap inL)[j]? = some u → W.cell? ((⟨g, a, none⟩ : Addr).add j) = some u) := by
  have e : L.flatMap inL = (L.take a).flatMap inL ++ (L.drop a).flatMap inL := by rw [← List.flatMap_append, List.take_append_drop]
  refine ⟨fun j u hu => ?_, fun ha j u hu => ?_⟩
  · refine h.cells (g := g) rfl j u ?_
    rw [e, List.getElem?_append_left (List.getElem?_eq_some_iff.1 hu).1]
    exact hu
  · have := h.cells (g := g) rfl (a + j) u (by
      rw [e, List.getElem?_append_right (by rw [inL_len, List.length_take]; omega), inL_len, List.length_take, show a + j - min a L.length = j by omega]
      exact hu)
    rw [addr_add0, Nat.zero_add] at this
    rw [addr_add0]
    exact this
def RisI (L : List Int) : Prop := L.Pairwise (fun x y => x < y)
theorem beforeI {L : List Int} {a : Nat} {f : Int} (h : ∀ j, j < a → itA L j < f) (ha : a ≤ L.length) : ∀ x ∈ L.take a, x < f := fun x hx => by
  obtain ⟨j, hj, e⟩ := List.mem_iff_getElem.1 hx
  have hj' : j < a := by simp at hj; omega
  have := h j hj'
  have e2 := itA_some (L := L) (j := j) (by omega)
  rw [List.getElem_take] at e
  rw [List.getElem?_eq_getElem (by omega), e] at e2
  injection e2 with e2
  rw [e2]
  exact this
theorem behindI {L : List Int} (hr : RisI L) {a : Nat} {f : Int} (h : a < L.length → f < itA L a) : ∀ x ∈ L.drop a, f < x := fun x hx => by
  rcases Nat.lt_or_ge a L.length with hl | hl
  · have e2 := itA_some hl
    rw [List.getElem?_eq_getElem hl] at e2
    injection e2 with e2
    rw [List.drop_eq_getElem_cons hl, e2] at hx
    have hd : RisI (L.drop a) := List.Pairwise.sublist (List.drop_sublist _ _) hr
    rw [List.drop_eq_getElem_cons hl, e2] at hd
    have := h hl
    rcases List.mem_cons.1 hx with rfl | hx
    · exact this
    · have := (List.pairwise_cons.1 hd).1 x hx
      omega
  · rw [List.drop_eq_nil_of_le hl] at hx
    cases hx
theorem insI {L : List Int} (hr : RisI L) {a : Nat} {f : Int} (hA : ∀ x ∈ L.take a, x < f) (hB : ∀ x ∈ L.drop a, f < x) : RisI (L.take a ++ f :: L.drop a) ∧ ∀ x, x ∈ L.take a ++ f :: L.drop a ↔ x ∈ L ∨ x = f := by
  have hLL : L = L.take a ++ L.drop a := (List.take_append_drop _ _).symm
  have hr' := hr
  rw [hLL] at hr'
  obtain ⟨r1, r2, r3⟩ := List.pairwise_append.1 hr'
  refine ⟨List.pairwise_append.2 ⟨r1, List.pairwise_cons.2 ⟨hB, r2⟩, fun x hx y hy => ?_⟩, fun x => ?_⟩
  · rcases List.mem_cons.1 hy with rfl | hy
    · exact hA x hx
    · exact r3 x hx y hy
  · have hm : x ∈ L ↔ x ∈ L.take a ∨ x ∈ L.drop a := by rw [← List.mem_append, ← hLL]
    rw [hm]
    simp only [List.mem_append, List.mem_cons]
    constructor
    · rintro (h | h | h)
      · exact .inl (.inl h)
      · exact .inr h
      · exact .inl (.inr h)
    · rintro ((h | h) | h)
      · exact .inl h
      · exact .inr (.inr h)
      · exact .inr (.inl h)
set_option maxRecDepth 100000 in
set_option maxHeartbeats 4000000 in
theorem rank_any (v0 : Value) (L : List Int) (B : Int) (base : Nat) (w : World) (hbs : base ≤ w.heap.size) (hrow : w.ownsRow base 3 1 v0 L.length (L.flatMap inL)) (hris : RisI L) (hL : L.length ≤ 5864062014804) :
    Calls Try.prog 30 #[v0, .int .i64 B] w fun e w' => ∃ (v : Value) (M : List Int), e = .returned v ∧ w'.ownsRow base 3 1 v M.length (M.flatMap inL) ∧ RisI M ∧ (∀ x, x ∈ M ↔ x ∈ L ∨ x = B) ∧ M.length ≤ L.length + 1 ∧ Below w.heap.size w w' := by
  obtain ⟨i8, hB1, hB2, hB3, hB4⟩ := sinfo infoInt
  have HRW : Hid (w.ownsRow base 3 1 v0 L.length (L.flatMap inL) ∧ RisI L ∧ base ≤ w.heap.size) := ⟨hrow, hris, hbs⟩
  clear hrow hris hbs
  go_enter Try.func30, Try.ntmps30
  go_wp2
  go_loopw [5] (fun v wt => ∃ a : Nat, v = .int .i64 a ∧ a ≤ L.length ∧ (∀ j, j < a → itA L j < B) ∧ wt = w) (fun v _ => L.length - (intOf v).toNat)
  case atStart => exact ⟨0, rfl, Nat.zero_le _, fun j hj => absurd hj (Nat.not_lt_zero _), rfl⟩
  case round =>
    obtain ⟨a, rfl, ha, hpre, hww⟩ := hrel
    subst hww
    obtain ⟨w, rfl⟩ : ∃ w, w = wr := ⟨_, rfl⟩
    have HP : Hid (∀ j, j < a → itA L j < B) := hpre
    clear hpre
    by_cases hla : a < L.length
    case pos =>
      have da : decide ((a : Int) < (L.length : Int)) = true := decide_eq_true (by omega)
      have a0 : (0 : Int) ≤ (a : Int) := by omega
      have a1 : (a : Int) < (L.length : Int) := by omega
      have ea : IntKind.i64.wrap ((a : Int) + 1) = (a : Int) + 1 := by rw [IntKind.wrap_i64]; omega
      have hma := meas hla
      obtain ⟨g, c, hv, hgl⟩ : ∃ g c, v0 = .slice (some ⟨g, 0, none⟩) L.length c ∧ L.length ≤ c := by
        rcases HRW.out.1.2 with ⟨_, h0⟩ | ⟨g, cap, cur, h2, _, _, h3, _⟩
        · omega
        · exact ⟨g, cap, h2, h3⟩
      subst hv
      have k0 := rowI_cell HRW.out.1 hla
      by_cases hk : itA L a < B
      · have dk : decide (itA L a < B) = true := decide_eq_true hk
        have HK : Hid (itA L a < B) := hk
        clear hk
        go_wp2
        refine ⟨⟨a + 1, rfl, hla, fun j hj => ?_, by first | rfl | trivial⟩, hma⟩
        by_cases e : j = a
        · rw [e]; exact HK.out
        · exact HP.out j (by omega)
      · have dk : decide (itA L a < B) = false := decide_eq_false hk
        by_cases he : itA L a = B
        · have de : (itA L a == B) = true := by simpa using he
          have hmem : B ∈ L := by rw [← he]; exact List.mem_of_getElem? (itA_some hla)
          have HMM : Hid (B ∈ L) := hmem
          clear hk he hmem
          go_wp2
          go_ret
          exact ⟨_, L, rfl, HRW.out.1, HRW.out.2.1, fun x => ⟨fun h => .inl h, fun h => by rcases h with h | rfl; exact h; exact HMM.out⟩, by omega, Below.refl _ _⟩
        · have de : (itA L a == B) = false := by simpa using he
          have HHB : Hid (B < itA L a) := by show B < itA L a; omega
          have hca : ¬ c = a := by omega
          have hca2 : ¬ a = c := by omega
          have b1 : (a : Int) ≤ (c : Int) := by omega
          have b2 : (a : Int) ≤ (L.length : Int) := by omega
          clear hk he
          have HN1 : Hid (((L.take a).flatMap inL).length = a * 1) := by show _ = _; rw [inL_len, List.length_take]; omega
          have HN3 : Hid (((L.drop a).flatMap inL).length = (L.length - a) * 1) := by show _ = _; rw [inL_len, List.length_drop]; omega
          have HN2 : Hid (a = 0 ∨ ∃ ad, (some ⟨g, 0, none⟩ : Option Addr) = some ad ∧ ∀ j u, ((L.take a).flatMap inL)[j]? = some u → w.cell? (ad.add j) = some u) := .inr ⟨_, rfl, (rowI_sub HRW.out.1 a).1⟩
          have HN4 : Hid (∀ W, Below w.heap.size w W → (L.length - a = 0 ∨ ∃ ad, (some ⟨g, a, none⟩ : Option Addr) = some ad ∧ ∀ j u, ((L.drop a).flatMap inL)[j]? = some u → W.cell? (ad.add j) = some u)) := fun W hb => .inr ⟨_, rfl, (rowI_sub (srow_later HRW.out.1 hb) a).2 ha⟩
          have HI : Hid (RisI (L.take a ++ B :: L.drop a) ∧ ∀ x, x ∈ L.take a ++ B :: L.drop a ↔ x ∈ L ∨ x = B) := insI HRW.out.2.1 (beforeI HP.out ha) (behindI HRW.out.2.1 (fun _ => HHB.out))
          go_wp2_with (first | (at_builtin; refine wpList_app rfl _ _ 44 rfl w.heap.size 3 i8 _ 1 8 Try.underlying44 hB1 hB2 hB3 hB4 rfl (by decide) (.slice none 0 0) 0 [] rfl (World.ownsRow_nil _ _ _ _) (some ⟨g, 0, none⟩) a c ((L.take a).flatMap inL) rfl HN1.out (HN2.out) (inL_one _) (by unfold maxLen; omega) (by omega) (Nat.le_refl _) ?_; intro v1 w1 hown1 hgrow1 _; have HQ1 : Hid (w1.ownsRow w.heap.size 3 1 v1 (0 + a) ([] ++ (L.take a).flatMap inL) ∧ Below w.heap.size w w1) := ⟨hown1, (Below.refl _ w).grown hgrow1 (Nat.le_refl _) (by simp [Value.ownBlock])⟩; have HQ1b : Hid ((w1.alloc (.cells #[.int .i64 B] 3)).ownsRow w.heap.size 3 1 v1 (0 + a) ([] ++ (L.take a).flatMap inL) ∧ (∀ j y, (inL B)[j]? = some y → (w1.alloc (.cells #[.int .i64 B] 3)).cell? ((⟨w1.heap.size, 0, none⟩ : Addr).add j) = some y) ∧ Below w.heap.size w (w1.alloc (.cells #[.int .i64 B] 3))) := ⟨World.ownsRow.alloc hown1 _, scells_new w1 (inL B) _, HQ1.out.2.alloc HQ1.out.2.size _⟩; clear hown1 hgrow1) | (at_builtin; refine wpList_app rfl _ _ 44 rfl w.heap.size 3 i8 _ 1 8 Try.underlying44 hB1 hB2 hB3 hB4 rfl (by decide) _ _ _ rfl HQ1b.out.1 (some ⟨w1.heap.size, 0, none⟩) 1 1 (inL B) rfl rfl (.inr ⟨_, rfl, HQ1b.out.2.1⟩) (by simp [inL, Value.oneCell']) (by unfold maxLen; omega) (by omega) HQ1b.out.2.2.size ?_; intro v2 w2 hown2 hgrow2 _; have hb2 : Below w.heap.size w w2 := (HQ1b.out.2.2.grown hgrow2 HQ1b.out.2.2.size (fun r' e => (srow_lt HQ1b.out.1 r' e).1)); have HQ2 : Hid (w2.ownsRow w.heap.size 3 1 v2 (0 + a + 1) ([] ++ (L.take a).flatMap inL ++ inL B) ∧ Below w.heap.size w w2) := ⟨hown2, hb2⟩; clear hown2 hgrow2 hb2) | (at_builtin; refine wpList_app rfl _ _ 44 rfl w.heap.size 3 i8 _ 1 8 Try.underlying44 hB1 hB2 hB3 hB4 rfl (by decide) _ _ _ rfl HQ2.out.1 (some ⟨g, a, none⟩) (L.length - a) (c - a) ((L.drop a).flatMap inL) rfl HN3.out (HN4.out w2 HQ2.out.2) (inL_one _) (by unfold maxLen; omega) (by omega) HQ2.out.2.size ?_; intro v3 w3 hown3 hgrow3 _; have HQ3 : Hid (w3.ownsRow w.heap.size 3 1 v3 (0 + a + 1 + (L.length - a)) ([] ++ (L.take a).flatMap inL ++ inL B ++ (L.drop a).flatMap inL) ∧ Below w.heap.size w w3) := ⟨hown3, HQ2.out.2.grown hgrow3 HQ2.out.2.size (fun r' e => (srow_lt HQ2.out.1 r' e).1)⟩; clear hown3 hgrow3))
          go_ret
          have hlen9 : (L.take a ++ B :: L.drop a).length = L.length + 1 := by rw [List.length_append, List.length_cons, List.length_take, List.length_drop]; omega
          first | refine ⟨_, L.take a ++ B :: L.drop a, rfl, ?_, HI.out.1, HI.out.2, by omega, HQ3.out.2⟩ | refine ⟨_, rfl, L.take a ++ B :: L.drop a, ?_, HI.out.1, HI.out.2, by omega, HQ3.out.2⟩
          have h9 := World.ownsRow.lower HQ3.out.1 HRW.out.2.2
          rw [hlen9, List.flatMap_append, List.flatMap_cons, ← List.append_assoc]
          rw [show L.length + 1 = 0 + a + 1 + (L.length - a) by omega]
          simpa using h9
    have da : decide ((a : Int) < (L.length : Int)) = false := decide_eq_false (by omega)
    have a0 : (0 : Int) ≤ (a : Int) := by omega
    rcases HRW.out.1.2 with ⟨hv, h0⟩ | ⟨g, c, cur, hv, _, _, hgl, _⟩
    · subst hv
      obtain rfl : a = 0 := by omega
      have hl0 : L.length = 0 := h0
      clear h0
      have HN1 : Hid (((L.take 0).flatMap inL).length = 0 * 1) := by show _ = _; rw [inL_len, List.length_take]; omega
      have HN3 : Hid (((L.drop 0).flatMap inL).length = 0 * 1) := by show _ = _; rw [inL_len, List.length_drop]; omega
      have HN2 : Hid (0 = 0 ∨ ∃ ad, (none : Option Addr) = some ad ∧ ∀ j u, ((L.take 0).flatMap inL)[j]? = some u → w.cell? (ad.add j) = some u) := .inl (by omega)
      have HN4 : Hid (∀ W, Below w.heap.size w W → ((0 : Nat) = 0 ∨ ∃ ad, (none : Option Addr) = some ad ∧ ∀ j u, ((L.drop 0).flatMap inL)[j]? = some u → W.cell? (ad.add j) = some u)) := fun W hb => .inl rfl
      have HI : Hid (RisI (L.take 0 ++ B :: L.drop 0) ∧ ∀ x, x ∈ L.take 0 ++ B :: L.drop 0 ↔ x ∈ L ∨ x = B) := insI HRW.out.2.1 (beforeI HP.out ha) (behindI HRW.out.2.1 (fun h => by omega))
      go_wp2_with (first | (at_builtin; refine wpList_app rfl _ _ 44 rfl w.heap.size 3 i8 _ 1 8 Try.underlying44 hB1 hB2 hB3 hB4 rfl (by decide) (.slice none 0 0) 0 [] rfl (World.ownsRow_nil _ _ _ _) none 0 0 ((L.take 0).flatMap inL) rfl HN1.out (HN2.out) (inL_one _) (by unfold maxLen; omega) (by omega) (Nat.le_refl _) ?_; intro v1 w1 hown1 hgrow1 _; have HQ1 : Hid (w1.ownsRow w.heap.size 3 1 v1 (0 + 0) ([] ++ (L.take 0).flatMap inL) ∧ Below w.heap.size w w1) := ⟨hown1, (Below.refl _ w).grown hgrow1 (Nat.le_refl _) (by simp [Value.ownBlock])⟩; have HQ1b : Hid ((w1.alloc (.cells #[.int .i64 B] 3)).ownsRow w.heap.size 3 1 v1 (0 + 0) ([] ++ (L.take 0).flatMap inL) ∧ (∀ j y, (inL B)[j]? = some y → (w1.alloc (.cells #[.int .i64 B] 3)).cell? ((⟨w1.heap.size, 0, none⟩ : Addr).add j) = some y) ∧ Below w.heap.size w (w1.alloc (.cells #[.int .i64 B] 3))) := ⟨World.ownsRow.alloc hown1 _, scells_new w1 (inL B) _, HQ1.out.2.alloc HQ1.out.2.size _⟩; clear hown1 hgrow1) | (at_builtin; refine wpList_app rfl _ _ 44 rfl w.heap.size 3 i8 _ 1 8 Try.underlying44 hB1 hB2 hB3 hB4 rfl (by decide) _ _ _ rfl HQ1b.out.1 (some ⟨w1.heap.size, 0, none⟩) 1 1 (inL B) rfl rfl (.inr ⟨_, rfl, HQ1b.out.2.1⟩) (by simp [inL, Value.oneCell']) (by unfold maxLen; omega) (by omega) HQ1b.out.2.2.size ?_; intro v2 w2 hown2 hgrow2 _; have hb2 : Below w.heap.size w w2 := (HQ1b.out.2.2.grown hgrow2 HQ1b.out.2.2.size (fun r' e => (srow_lt HQ1b.out.1 r' e).1)); have HQ2 : Hid (w2.ownsRow w.heap.size 3 1 v2 (0 + 0 + 1) ([] ++ (L.take 0).flatMap inL ++ inL B) ∧ Below w.heap.size w w2) := ⟨hown2, hb2⟩; clear hown2 hgrow2 hb2) | (at_builtin; refine wpList_app rfl _ _ 44 rfl w.heap.size 3 i8 _ 1 8 Try.underlying44 hB1 hB2 hB3 hB4 rfl (by decide) _ _ _ rfl HQ2.out.1 none 0 0 ((L.drop 0).flatMap inL) rfl HN3.out (HN4.out w2 HQ2.out.2) (inL_one _) (by unfold maxLen; omega) (by omega) HQ2.out.2.size ?_; intro v3 w3 hown3 hgrow3 _; have HQ3 : Hid (w3.ownsRow w.heap.size 3 1 v3 (0 + 0 + 1 + 0) ([] ++ (L.take 0).flatMap inL ++ inL B ++ (L.drop 0).flatMap inL) ∧ Below w.heap.size w w3) := ⟨hown3, HQ2.out.2.grown hgrow3 HQ2.out.2.size (fun r' e => (srow_lt HQ2.out.1 r' e).1)⟩; clear hown3 hgrow3))
      go_ret
      have hlen9 : (L.take 0 ++ B :: L.drop 0).length = L.length + 1 := by rw [List.length_append, List.length_cons, List.length_take, List.length_drop]; omega
      first | refine ⟨_, L.take 0 ++ B :: L.drop 0, rfl, ?_, HI.out.1, HI.out.2, by omega, HQ3.out.2⟩ | refine ⟨_, rfl, L.take 0 ++ B :: L.drop 0, ?_, HI.out.1, HI.out.2, by omega, HQ3.out.2⟩
      have h9 := World.ownsRow.lower HQ3.out.1 HRW.out.2.2
      rw [hlen9, List.flatMap_append, List.flatMap_cons, ← List.append_assoc]
      rw [show L.length + 1 = 0 + 0 + 1 + 0 by omega]
      simpa using h9
    · subst hv
      have b1 : (a : Int) ≤ (c : Int) := by omega
      have b2 : (a : Int) ≤ (L.length : Int) := by omega
      by_cases hca : c = a
      · subst hca
        have HN1 : Hid (((L.take c).flatMap inL).length = c * 1) := by show _ = _; rw [inL_len, List.length_take]; omega
        have HN3 : Hid (((L.drop c).flatMap inL).length = 0 * 1) := by show _ = _; rw [inL_len, List.length_drop]; omega
        have HN2 : Hid (c = 0 ∨ ∃ ad, (some ⟨g, 0, none⟩ : Option Addr) = some ad ∧ ∀ j u, ((L.take c).flatMap inL)[j]? = some u → w.cell? (ad.add j) = some u) := .inr ⟨_, rfl, (rowI_sub HRW.out.1 c).1⟩
        have HN4 : Hid (∀ W, Below w.heap.size w W → ∀ p : Option Addr, ((0 : Nat) = 0 ∨ ∃ ad, p = some ad ∧ ∀ j u, ((L.drop c).flatMap inL)[j]? = some u → W.cell? (ad.add j) = some u)) := fun W hb p => .inl rfl
        have HI : Hid (RisI (L.take c ++ B :: L.drop c) ∧ ∀ x, x ∈ L.take c ++ B :: L.drop c ↔ x ∈ L ∨ x = B) := insI HRW.out.2.1 (beforeI HP.out ha) (behindI HRW.out.2.1 (fun h => by omega))
        go_wp2_with (first | (at_builtin; refine wpList_app rfl _ _ 44 rfl w.heap.size 3 i8 _ 1 8 Try.underlying44 hB1 hB2 hB3 hB4 rfl (by decide) (.slice none 0 0) 0 [] rfl (World.ownsRow_nil _ _ _ _) (some ⟨g, 0, none⟩) c c ((L.take c).flatMap inL) rfl HN1.out (HN2.out) (inL_one _) (by unfold maxLen; omega) (by omega) (Nat.le_refl _) ?_; intro v1 w1 hown1 hgrow1 _; have HQ1 : Hid (w1.ownsRow w.heap.size 3 1 v1 (0 + c) ([] ++ (L.take c).flatMap inL) ∧ Below w.heap.size w w1) := ⟨hown1, (Below.refl _ w).grown hgrow1 (Nat.le_refl _) (by simp [Value.ownBlock])⟩; have HQ1b : Hid ((w1.alloc (.cells #[.int .i64 B] 3)).ownsRow w.heap.size 3 1 v1 (0 + c) ([] ++ (L.take c).flatMap inL) ∧ (∀ j y, (inL B)[j]? = some y → (w1.alloc (.cells #[.int .i64 B] 3)).cell? ((⟨w1.heap.size, 0, none⟩ : Addr).add j) = some y) ∧ Below w.heap.size w (w1.alloc (.cells #[.int .i64 B] 3))) := ⟨World.ownsRow.alloc hown1 _, scells_new w1 (inL B) _, HQ1.out.2.alloc HQ1.out.2.size _⟩; clear hown1 hgrow1) | (at_builtin; refine wpList_app rfl _ _ 44 rfl w.heap.size 3 i8 _ 1 8 Try.underlying44 hB1 hB2 hB3 hB4 rfl (by decide) _ _ _ rfl HQ1b.out.1 (some ⟨w1.heap.size, 0, none⟩) 1 1 (inL B) rfl rfl (.inr ⟨_, rfl, HQ1b.out.2.1⟩) (by simp [inL, Value.oneCell']) (by unfold maxLen; omega) (by omega) HQ1b.out.2.2.size ?_; intro v2 w2 hown2 hgrow2 _; have hb2 : Below w.heap.size w w2 := (HQ1b.out.2.2.grown hgrow2 HQ1b.out.2.2.size (fun r' e => (srow_lt HQ1b.out.1 r' e).1)); have HQ2 : Hid (w2.ownsRow w.heap.size 3 1 v2 (0 + c + 1) ([] ++ (L.take c).flatMap inL ++ inL B) ∧ Below w.heap.size w w2) := ⟨hown2, hb2⟩; clear hown2 hgrow2 hb2) | (at_builtin; refine wpList_app rfl _ _ 44 rfl w.heap.size 3 i8 _ 1 8 Try.underlying44 hB1 hB2 hB3 hB4 rfl (by decide) _ _ _ rfl HQ2.out.1 _ 0 _ ((L.drop c).flatMap inL) rfl HN3.out (HN4.out w2 HQ2.out.2 _) (inL_one _) (by unfold maxLen; omega) (by omega) HQ2.out.2.size ?_; intro v3 w3 hown3 hgrow3 _; have HQ3 : Hid (w3.ownsRow w.heap.size 3 1 v3 (0 + c + 1 + 0) ([] ++ (L.take c).flatMap inL ++ inL B ++ (L.drop c).flatMap inL) ∧ Below w.heap.size w w3) := ⟨hown3, HQ2.out.2.grown hgrow3 HQ2.out.2.size (fun r' e => (srow_lt HQ2.out.1 r' e).1)⟩; clear hown3 hgrow3))
        go_ret
        have hlen9 : (L.take c ++ B :: L.drop c).length = L.length + 1 := by rw [List.length_append, List.length_cons, List.length_take, List.length_drop]; omega
        first | refine ⟨_, L.take c ++ B :: L.drop c, rfl, ?_, HI.out.1, HI.out.2, by omega, HQ3.out.2⟩ | refine ⟨_, rfl, L.take c ++ B :: L.drop c, ?_, HI.out.1, HI.out.2, by omega, HQ3.out.2⟩
        have h9 := World.ownsRow.lower HQ3.out.1 HRW.out.2.2
        rw [hlen9, List.flatMap_append, List.flatMap_cons, ← List.append_assoc]
        rw [show L.length + 1 = 0 + c + 1 + 0 by omega]
        simpa using h9
      · have hca2 : ¬ a = c := fun e => hca e.symm
        have HN1 : Hid (((L.take a).flatMap inL).length = a * 1) := by show _ = _; rw [inL_len, List.length_take]; omega
        have HN3 : Hid (((L.drop a).flatMap inL).length = (L.length - a) * 1) := by show _ = _; rw [inL_len, List.length_drop]; omega
        have HN2 : Hid (a = 0 ∨ ∃ ad, (some ⟨g, 0, none⟩ : Option Addr) = some ad ∧ ∀ j u, ((L.take a).flatMap inL)[j]? = some u → w.cell? (ad.add j) = some u) := .inr ⟨_, rfl, (rowI_sub HRW.out.1 a).1⟩
        have HN4 : Hid (∀ W, Below w.heap.size w W → (L.length - a = 0 ∨ ∃ ad, (some ⟨g, a, none⟩ : Option Addr) = some ad ∧ ∀ j u, ((L.drop a).flatMap inL)[j]? = some u → W.cell? (ad.add j) = some u)) := fun W hb => .inr ⟨_, rfl, (rowI_sub (srow_later HRW.out.1 hb) a).2 ha⟩
        have HI : Hid (RisI (L.take a ++ B :: L.drop a) ∧ ∀ x, x ∈ L.take a ++ B :: L.drop a ↔ x ∈ L ∨ x = B) := insI HRW.out.2.1 (beforeI HP.out ha) (behindI HRW.out.2.1 (fun h => by omega))
        go_wp2_with (first | (at_builtin; refine wpList_app rfl _ _ 44 rfl w.heap.size 3 i8 _ 1 8 Try.underlying44 hB1 hB2 hB3 hB4 rfl (by decide) (.slice none 0 0) 0 [] rfl (World.ownsRow_nil _ _ _ _) (some ⟨g, 0, none⟩) a c ((L.take a).flatMap inL) rfl HN1.out (HN2.out) (inL_one _) (by unfold maxLen; omega) (by omega) (Nat.le_refl _) ?_; intro v1 w1 hown1 hgrow1 _; have HQ1 : Hid (w1.ownsRow w.heap.size 3 1 v1 (0 + a) ([] ++ (L.take a).flatMap inL) ∧ Below w.heap.size w w1) := ⟨hown1, (Below.refl _ w).grown hgrow1 (Nat.le_refl _) (by simp [Value.ownBlock])⟩; have HQ1b : Hid ((w1.alloc (.cells #[.int .i64 B] 3)).ownsRow w.heap.size 3 1 v1 (0 + a) ([] ++ (L.take a).flatMap inL) ∧ (∀ j y, (inL B)[j]? = some y → (w1.alloc (.cells #[.int .i64 B] 3)).cell? ((⟨w1.heap.size, 0, none⟩ : Addr).add j) = some y) ∧ Below w.heap.size w (w1.alloc (.cells #[.int .i64 B] 3))) := ⟨World.ownsRow.alloc hown1 _, scells_new w1 (inL B) _, HQ1.out.2.alloc HQ1.out.2.size _⟩; clear hown1 hgrow1) | (at_builtin; refine wpList_app rfl _ _ 44 rfl w.heap.size 3 i8 _ 1 8 Try.underlying44 hB1 hB2 hB3 hB4 rfl (by decide) _ _ _ rfl HQ1b.out.1 (some ⟨w1.heap.size, 0, none⟩) 1 1 (inL B) rfl rfl (.inr ⟨_, rfl, HQ1b.out.2.1⟩) (by simp [inL, Value.oneCell']) (by unfold maxLen; omega) (by omega) HQ1b.out.2.2.size ?_; intro v2 w2 hown2 hgrow2 _; have hb2 : Below w.heap.size w w2 := (HQ1b.out.2.2.grown hgrow2 HQ1b.out.2.2.size (fun r' e => (srow_lt HQ1b.out.1 r' e).1)); have HQ2 : Hid (w2.ownsRow w.heap.size 3 1 v2 (0 + a + 1) ([] ++ (L.take a).flatMap inL ++ inL B) ∧ Below w.heap.size w w2) := ⟨hown2, hb2⟩; clear hown2 hgrow2 hb2) | (at_builtin; refine wpList_app rfl _ _ 44 rfl w.heap.size 3 i8 _ 1 8 Try.underlying44 hB1 hB2 hB3 hB4 rfl (by decide) _ _ _ rfl HQ2.out.1 (some ⟨g, a, none⟩) (L.length - a) (c - a) ((L.drop a).flatMap inL) rfl HN3.out (HN4.out w2 HQ2.out.2) (inL_one _) (by unfold maxLen; omega) (by omega) HQ2.out.2.size ?_; intro v3 w3 hown3 hgrow3 _; have HQ3 : Hid (w3.ownsRow w.heap.size 3 1 v3 (0 + a + 1 + (L.length - a)) ([] ++ (L.take a).flatMap inL ++ inL B ++ (L.drop a).flatMap inL) ∧ Below w.heap.size w w3) := ⟨hown3, HQ2.out.2.grown hgrow3 HQ2.out.2.size (fun r' e => (srow_lt HQ2.out.1 r' e).1)⟩; clear hown3 hgrow3))
        go_ret
        have hlen9 : (L.take a ++ B :: L.drop a).length = L.length + 1 := by rw [List.length_append, List.length_cons, List.length_take, List.length_drop]; omega
        first | refine ⟨_, L.take a ++ B :: L.drop a, rfl, ?_, HI.out.1, HI.out.2, by omega, HQ3.out.2⟩ | refine ⟨_, rfl, L.take a ++ B :: L.drop a, ?_, HI.out.1, HI.out.2, by omega, HQ3.out.2⟩
        have h9 := World.ownsRow.lower HQ3.out.1 HRW.out.2.2
        rw [hlen9, List.flatMap_append, List.flatMap_cons, ← List.append_assoc]
        rw [show L.length + 1 = 0 + a + 1 + (L.length - a) by omega]
        simpa using h9
end Go.Proofs.Ytomjnncgogkglaa
