import Derived.Test.YtlojkcodndjfbaaY25
namespace Go.Proofs.Ytlojkcodndjfbaa
open Go.ChangeShapes Go.WideShapes Go.ChangeAt Go.RowKit
set_option linter.unusedVariables false
set_option linter.unusedSimpArgs false

theorem splitS {base qb g : Nat} {room wb : Int} {L : List Ev} (u : Int) (W : World) (h : QS base qb g room wb L W) (hwb : wb ≤ 4611686018427387904) : Calls Try.prog 13 #[.pointer (some ⟨qb, 0, none⟩), .int .u64 u] W fun e' W' => ∃ b X L1 L2, e' = .returned (.slice (some ⟨b, 0, none⟩) L2.length L2.length) ∧ L = L1 ++ L2 ∧ EvsL W' b L2.length X ∧ (∀ i, i < L2.length → L2[i]? = some (X i)) ∧ W.heap.size ≤ b ∧ (∀ x ∈ L1, x.t < u) ∧ (∀ x ∈ L2, u ≤ x.t) ∧ QS base qb g room (wb + 8192) L1 W' ∧ Ch (S2 qb g) W W' := by
  obtain ⟨c, n, A, t, fl, root, work, hq, hLe, hw⟩ := h
  have hsz := hq.n1.2.2
  have hk9 := openT_k _ (side_sdT u A.E) t.size t (Nat.le_refl _)
  obtain ⟨hm, hps, hta, htb⟩ := cutT hq u
  refine (split_any base qb g c n A t fl root room work u W hq (by omega)).mono ?_
  rintro e' W' ⟨b, A', fl', root', rfl, hO, hq', hE, hC⟩
  have hsp : ((openT (sdT u A.E) t).b.spots 0).map Prod.fst = (openT (sdT u A.E) t).b.ps := Tr.spots_ps _ 0
  have el : ((openT (sdT u A.E) t).b.ps.map A.E).length = (openT (sdT u A.E) t).b.size := by rw [List.length_map, Tr.size_ps]
  have hOl := Own.lt hO b rfl
  refine ⟨b, fun i => A.E (((openT (sdT u A.E) t).b.spots 0).getD i (0, 0)).1, (openT (sdT u A.E) t).a.ps.map A.E, (openT (sdT u A.E) t).b.ps.map A.E, by rw [el], by rw [hLe, hps, List.map_append], ⟨hOl.2, fun i r hi hr => ?_⟩, fun i hi => ?_, hOl.1, fun x hx => ?_, fun x hx => ?_, ⟨c, n, A', _, fl', root', _, hq', hE.symm, by omega⟩, hC⟩
  · rw [el] at hi
    rw [hO.cell (j := i * 6 + r) (by omega)]
    unfold evF
    rw [show (i * 6 + r) / 6 = i by omega, show (i * 6 + r) % 6 = r by omega]
  · rw [el] at hi
    have hi2 : i < ((openT (sdT u A.E) t).b.spots 0).length := by rw [spots_len]; omega
    show _ = some (A.E (((openT (sdT u A.E) t).b.spots 0).getD i (0, 0)).1)
    rw [← hsp, List.map_map, List.getElem?_map, List.getElem?_eq_getElem hi2, List.getD_eq_getElem?_getD, List.getElem?_eq_getElem hi2]
    rfl
  · obtain ⟨p, hp, rfl⟩ := List.mem_map.1 hx
    exact hta p hp
  · obtain ⟨p, hp, rfl⟩ := List.mem_map.1 hx
    exact htb p hp
end Go.Proofs.Ytlojkcodndjfbaa
