import Derived.Test.YtlojkcodndjfbaaY34
namespace Go.Proofs.Ytlojkcodndjfbaa
open Go.ChangeShapes Go.WideShapes Go.ChangeAt Go.RowKit
set_option linter.unusedVariables false
set_option linter.unusedSimpArgs false

/-- calls that come in -/
def OpsIn (W : World) (p : Option Addr) (N : Nat) (O : Nat → OpV) : Prop := N = 0 ∨ ∃ b o, p = some ⟨b, o, none⟩ ∧ b < W.heap.size ∧ ∀ i r, i < N → r < 7 → W.cell? ⟨b, o + i * 7 + r, none⟩ = some ((opA (O i)).toList.getD r undef)
theorem new_QS9 {W : World} {base qb nb : Nat} {room : Int} (hq : W.heap[qb]? = some (.cells #[.slice (some ⟨nb, 0, none⟩) 1 1, .int .i64 0, .int .i64 0, .int .i64 0, .int .i64 room, .int .i64 0] 65 (0, 0))) (hO : Own W base 77 8 (.slice (some ⟨nb, 0, none⟩) 1 1) 1 zNd) (hne : qb ≠ nb) (hb : base ≤ qb) (hr : 1 ≤ room ∧ room ≤ 8192) : QS base qb nb room 0 [] W := new_QS hq hO hne hb hr
theorem QI.later {W W' : World} {base qb g c n : Nat} {A : Ar} {t : Tr} {fl : List Nat} {root : Nat} {room work : Int} (h : QI W base qb g c n A t fl root room work) (hb : Below W.heap.size W W') : QI W' base qb g c n A t fl root room work := ⟨h.q.later hb, h.ti, h.fr, h.nd, h.inr, h.cnt, h.z, h.nr, h.rm, h.srt, h.wk⟩
theorem QI.far {W W' : World} {base qb g c n : Nat} {A : Ar} {t : Tr} {fl : List Nat} {root : Nat} {room work : Int} (h : QI W base qb g c n A t fl root room work) (h1 : W'.heap[qb]? = W.heap[qb]?) (h2 : W'.heap[g]? = W.heap[g]?) : QI W' base qb g c n A t fl root room work := ⟨⟨h.q.box.far fun j e => (by cases e; exact h1), h.q.row.far fun j e => (by cases e; exact h2), h.q.ne⟩, h.ti, h.fr, h.nd, h.inr, h.cnt, h.z, h.nr, h.rm, h.srt, h.wk⟩
theorem spX0 (A : Ar) {t : Tr} {m : Nat} {r : List Nat} (h : t.ps = m :: r) : spX A t 0 = A.E m := by
  have hsp : (t.spots 0).map Prod.fst = t.ps := Tr.spots_ps t 0
  rw [h] at hsp
  unfold spX
  cases hs : t.spots 0 with
  | nil => rw [hs] at hsp; simp at hsp
  | cons x l =>
    rw [hs] at hsp
    simp at hsp
    show A.E x.1 = A.E m
    rw [hsp.1]
theorem EvsL.at {W : World} {b N : Nat} {X : Nat → Ev} (h : EvsL W b N X) {i : Nat} (hi : i < N) : W.cell? ⟨b, i * 6, none⟩ = some (.int .u64 (X i).t) ∧ W.cell? ⟨b, i * 6 + 1, none⟩ = some (.int .i64 (X i).s) ∧ W.cell? ⟨b, i * 6 + 2, none⟩ = some (.int .u64 (X i).q) ∧ W.cell? ⟨b, i * 6 + 3, none⟩ = some (.int .i64 (X i).d) ∧ W.cell? ⟨b, i * 6 + 4, none⟩ = some (.int .i64 (X i).k) ∧ W.cell? ⟨b, i * 6 + 5, none⟩ = some (.int .i64 (X i).v) :=
  ⟨h.2 i 0 hi (by decide), h.2 i 1 hi (by decide), h.2 i 2 hi (by decide), h.2 i 3 hi (by decide), h.2 i 4 hi (by decide), h.2 i 5 hi (by decide)⟩
theorem neq_ev9 (x : Ev) (W : World) : (binOp .neq 27 (.agg #[.int .u64 x.t, .int .i64 x.s, .int .u64 x.q, .int .i64 x.d, .int .i64 x.k, .int .i64 x.v]) (.agg #[.int .u64 x.t, .int .i64 x.s, .int .u64 x.q, .int .i64 x.d, .int .i64 x.k, .int .i64 x.v])).run Try.prog W = .ok (.bool false) W := neq_evV _ _ _ _ _ _ W
end Go.Proofs.Ytlojkcodndjfbaa
