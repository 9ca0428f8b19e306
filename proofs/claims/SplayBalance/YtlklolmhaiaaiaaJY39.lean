import Derived.Test.YtlklolmhaiaaiaaJY38
namespace Go.Proofs.Ytlklolmhaiaaiaa
open Go.ChangeShapes Go.WideShapes Go.ChangeAt Go.RowKit
set_option linter.unusedVariables false
set_option linter.unusedSimpArgs false

theorem lX_ins {L : List Ev} {i : Nat} (e : Ev) (hi : i ≤ L.length) {k : Nat} (hk : k < L.length + 1) : insX (lX L) i e k = lX (L.take i ++ e :: L.drop i) k := by
  have hl : (L.take i).length = i := by rw [List.length_take]; omega
  have h9 : (L.take i ++ e :: L.drop i)[k]? = some (insX (lX L) i e k) := by
    unfold insX
    by_cases h1 : k < i
    · rw [if_pos h1, List.getElem?_append_left (by omega), List.getElem?_take, if_pos h1]
      exact lX_at (by omega)
    · rw [if_neg h1, List.getElem?_append_right (by omega), hl]
      by_cases h2 : k = i
      · rw [if_pos h2, h2, Nat.sub_self]
        rfl
      · rw [if_neg h2, show k - i = (k - 1 - i) + 1 by omega, List.getElem?_cons_succ, List.getElem?_drop, show i + (k - 1 - i) = k - 1 by omega]
        exact lX_at (by omega)
  unfold lX
  rw [List.getD_eq_getElem?_getD, h9]
  rfl
theorem lX_del {L : List Ev} {i : Nat} (hi : i < L.length) {k : Nat} (hk : k < L.length - 1) : delX (lX L) i k = lX (L.take i ++ L.drop (i + 1)) k := by
  have hl : (L.take i).length = i := by rw [List.length_take]; omega
  have h9 : (L.take i ++ L.drop (i + 1))[k]? = some (delX (lX L) i k) := by
    unfold delX
    by_cases h1 : k < i
    · rw [if_pos h1, List.getElem?_append_left (by omega), List.getElem?_take, if_pos h1]
      exact lX_at (by omega)
    · rw [if_neg h1, List.getElem?_append_right (by omega), hl, List.getElem?_drop, show i + 1 + (k - i) = k + 1 by omega]
      exact lX_at (by omega)
  unfold lX
  rw [List.getD_eq_getElem?_getD, h9]
  rfl
theorem EvO.congr {W : World} {b o N N' : Nat} {X Y : Nat → Ev} (h : EvO W b o N X) (hN : N = N') (he : ∀ i, i < N → X i = Y i) : EvO W b o N' Y := by
  subst hN
  exact ⟨h.1, fun i r hi hr => by rw [h.2 i r hi hr, he i hi]⟩
theorem withE {W : World} {qb g c : Nat} {p : Option Addr} {L : List Ev} (e : Ev) (i : Nat) (h : EL W qb g p c L) (hi : i ≤ L.length) (hn : L.length ≤ 8192) (h1 : qb < W.heap.size) (h2 : g < W.heap.size) : Calls Try.prog 31 #[.slice p L.length c, .int .i64 (i : Int), evV e] W fun r W' => ∃ p' c', r = .returned (.slice p' (L.take i ++ e :: L.drop i).length c') ∧ EL W' qb g p' c' (L.take i ++ e :: L.drop i) ∧ Below W.heap.size W W' := by
  have hlen : (L.take i ++ e :: L.drop i).length = L.length + 1 := by
    rw [List.length_append, List.length_cons, List.length_take, List.length_drop]
    omega
  rcases h with ⟨rfl, rfl, rfl⟩ | ⟨b, o, rfl, h3, h4, _⟩
  · have hi0 : i = 0 := by simpa using hi
    subst hi0
    refine (with0 e W).mono ?_
    rintro r W' ⟨b', c', rfl, q1, q2, q3, q4⟩
    exact ⟨_, c', rfl, .inr ⟨b', 0, rfl, q1.congr rfl (fun i hi => by obtain rfl : i = 0 := (by omega); rfl), q3, by omega, by omega⟩, q4⟩
  · refine (withO b o L.length c i (lX L) e W h3 hi h4 hn).mono ?_
    rintro r W' ⟨b', c', rfl, q1, q2, q3, q4⟩
    refine ⟨_, c', by rw [hlen], .inr ⟨b', 0, rfl, q1.congr hlen.symm (fun k hk => lX_ins e hi hk), by omega, by omega, by omega⟩, q4⟩
theorem withoutE {W : World} {qb g c : Nat} {p : Option Addr} {L : List Ev} (i : Nat) (h : EL W qb g p c L) (hi : i < L.length) (hn : L.length ≤ 8192) (h1 : qb < W.heap.size) (h2 : g < W.heap.size) : Calls Try.prog 37 #[.slice p L.length c, .int .i64 (i : Int)] W fun r W' => ∃ p' c', r = .returned (.slice p' (L.take i ++ L.drop (i + 1)).length c') ∧ EL W' qb g p' c' (L.take i ++ L.drop (i + 1)) ∧ Below W.heap.size W W' := by
  have hlen : (L.take i ++ L.drop (i + 1)).length = L.length - 1 := by
    rw [List.length_append, List.length_take, List.length_drop]
    omega
  rcases h with ⟨rfl, rfl, rfl⟩ | ⟨b, o, rfl, h3, h4, _⟩
  · exact absurd hi (Nat.not_lt_zero _)
  · refine (withoutO b o L.length c i (lX L) W h3 hi h4 hn).mono ?_
    rintro r W' ⟨v, rfl, q1, q2⟩
    obtain ⟨p', c', hv, hE⟩ := EL.row q1 hlen.symm (fun k hk => lX_del hi hk) h1 h2
    exact ⟨p', c', by rw [hv], hE, q2⟩
theorem toldE {W : World} {qb g c : Nat} {p : Option Addr} {L : List Ev} (i : Nat) (r : Int) (h : EL W qb g p c L) (hi : i < L.length) : Calls Try.prog 33 #[evV (lX L i), .int .i64 0, .slice p L.length c, .int .i64 (i : Int), .bool true, .int .i64 r] W fun e W' => e = .returned (.bool true) ∧ Below W.heap.size W W' := by
  rcases h with ⟨rfl, rfl, rfl⟩ | ⟨b, o, rfl, h3, h4, _⟩
  · exact absurd hi (Nat.not_lt_zero _)
  · exact told_yes b o L.length c i (lX L) r W h3 hi
theorem EL.xat {W : World} {qb g c : Nat} {p : Option Addr} {L : List Ev} (h : EL W qb g p c L) : XAt W p L.length (fun j => evC (lX L (j / 6)) (j % 6)) := by
  rcases h with ⟨rfl, rfl, rfl⟩ | ⟨b, o, rfl, h3, h4, _⟩
  · exact .inl rfl
  · exact h3.xat
/-- what a call on the queue leaves -/
def HRes (base qb g : Nat) (room wb : Int) (W : World) (r : Ending) (W' : World) : Prop := ∃ (p' : Option Addr) (c' g' : Nat) (L' : List Ev), r = .returned (.tuple #[.slice p' L'.length c', .bool true]) ∧ QS base qb g' room (wb + 16384) L' W' ∧ EL W' qb g' p' c' L' ∧ (g' = g ∨ W.heap.size ≤ g') ∧ Ch (S2 qb g) W W'
end Go.Proofs.Ytlklolmhaiaaiaa
