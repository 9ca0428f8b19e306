import Derived.Test.YtlojkcodndjfbaaY17
namespace Go.Proofs.Ytlojkcodndjfbaa
open Go.ChangeShapes Go.WideShapes Go.ChangeAt Go.RowKit
set_option linter.unusedVariables false
set_option linter.unusedSimpArgs false

theorem KBx.frz {W : World} {kb : Nat} {kt ks kq : Int} (h : KBx W kb kt ks kq) (k : Nat) : W.frozen? ⟨kb, k, none⟩ = false := by
  unfold KBx at h
  simp [World.frozen?, h]
theorem new_QS {W : World} {base qb nb : Nat} {room : Int} (hq : W.heap[qb]? = some (.cells #[.slice (some ⟨nb, 0, none⟩) 1 1, .int .i64 0, .int .i64 0, .int .i64 0, .int .i64 room, .int .i64 0] 65 (0, 0))) (hO : Own W base 77 8 (.slice (some ⟨nb, 0, none⟩) 1 1) 1 zNd) (hne : qb ≠ nb) (hb : base ≤ qb) (hr : 1 ≤ room ∧ room ≤ 8192) : QS base qb nb room 0 [] W := by
  refine ⟨1, 1, ⟨fun _ => ev0, fun _ => 0, fun _ => 0⟩, .nil, [], 0, 0, ⟨⟨?_, ?_, fun e => hne e.symm⟩, rfl, trivial, by simp [Tr.ps], by simp [Tr.ps], rfl, ⟨rfl, rfl⟩, by omega, hr, List.Pairwise.nil, Int.le_refl _⟩, rfl, Int.le_refl _⟩
  · refine Own.mk' hq rfl (Nat.le_refl _) (by unfold maxLen; omega) hb fun j hj => ?_
    have : j = 0 ∨ j = 1 ∨ j = 2 ∨ j = 3 ∨ j = 4 ∨ j = 5 := by omega
    rcases this with rfl | rfl | rfl | rfl | rfl | rfl <;> rfl
  · refine hO.congr fun j hj => ?_
    have : j = 0 ∨ j = 1 ∨ j = 2 ∨ j = 3 ∨ j = 4 ∨ j = 5 ∨ j = 6 ∨ j = 7 := by omega
    rcases this with rfl | rfl | rfl | rfl | rfl | rfl | rfl | rfl <;> rfl
theorem QS.up {base qb g : Nat} {room wb wb' : Int} {L : List Ev} {W : World} (h : QS base qb g room wb L W) (hw : wb ≤ wb') : QS base qb g room wb' L W := by
  obtain ⟨c, n, A, t, fl, root, work, hq, hL, h2⟩ := h
  exact ⟨c, n, A, t, fl, root, work, hq, hL, by omega⟩
/-- keys that come in -/
def KeysAt (W : World) (p : Option Addr) (N : Nat) (T S Q : Nat → Int) : Prop := N = 0 ∨ ∃ b o, p = some ⟨b, o, none⟩ ∧ b < W.heap.size ∧ ∀ i, i < N → W.cell? ⟨b, o + i * 3, none⟩ = some (.int .u64 (T i)) ∧ W.cell? ⟨b, o + i * 3 + 1, none⟩ = some (.int .i64 (S i)) ∧ W.cell? ⟨b, o + i * 3 + 2, none⟩ = some (.int .u64 (Q i))
theorem insOk {base qb g : Nat} {room wb : Int} {L : List Ev} {e : Ev} {W W' : World} {code : Int} (h : InsR base qb g room wb L e W code W') (h1 : (L.length : Int) ≠ room) (h2 : ¬ ∃ x ∈ L, cmpE e.t e.s e.q x = 0) : ∃ g', code = 0 ∧ ∃ L', QS base qb g' room (wb + 8192) L' W' ∧ L'.length = L.length + 1 ∧ (∀ x, x ∈ L' ↔ x = e ∨ x ∈ L) ∧ (g' = g ∨ W.heap.size ≤ g') ∧ Ch (S2 qb g) W W' := by
  obtain ⟨g', hc, hg, hC⟩ := h
  rcases hc with ⟨h3, _⟩ | ⟨_, h3, _⟩ | ⟨_, _, h4, L', h5, h6, h7⟩
  · exact absurd h3 h1
  · exact absurd h3 h2
  · exact ⟨g', h4, L', h5, h6, h7, hg, hC⟩
theorem insFull {base qb g : Nat} {room wb : Int} {L : List Ev} {e : Ev} {W W' : World} {code : Int} (h : InsR base qb g room wb L e W code W') (h1 : (L.length : Int) = room) : ∃ g', code = 80 ∧ QS base qb g' room (wb + 8192) L W' ∧ (g' = g ∨ W.heap.size ≤ g') ∧ Ch (S2 qb g) W W' := by
  obtain ⟨g', hc, hg, hC⟩ := h
  rcases hc with ⟨_, h4, h5⟩ | ⟨h3, _⟩ | ⟨h3, _⟩
  · exact ⟨g', h4, h5, hg, hC⟩
  · exact absurd h1 h3
  · exact absurd h1 h3
theorem insTwin {base qb g : Nat} {room wb : Int} {L : List Ev} {e : Ev} {W W' : World} {code : Int} (h : InsR base qb g room wb L e W code W') (h1 : (L.length : Int) ≠ room) (h2 : ∃ x ∈ L, cmpE e.t e.s e.q x = 0) : ∃ g', code = 81 ∧ QS base qb g' room (wb + 8192) L W' ∧ (g' = g ∨ W.heap.size ≤ g') ∧ Ch (S2 qb g) W W' := by
  obtain ⟨g', hc, hg, hC⟩ := h
  rcases hc with ⟨h3, _⟩ | ⟨_, _, h4, h5⟩ | ⟨_, h3, _⟩
  · exact absurd h3 h1
  · exact ⟨g', h4, h5, hg, hC⟩
  · exact absurd h2 h3
end Go.Proofs.Ytlojkcodndjfbaa
