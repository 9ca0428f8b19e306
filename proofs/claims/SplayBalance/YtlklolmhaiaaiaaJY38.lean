import Derived.Test.YtlklolmhaiaaiaaJY37
namespace Go.Proofs.Ytlklolmhaiaaiaa
open Go.ChangeShapes Go.WideShapes Go.ChangeAt Go.RowKit
set_option linter.unusedVariables false
set_option linter.unusedSimpArgs false

def lX (L : List Ev) (i : Nat) : Ev := L.getD i ev0
theorem lX_at {L : List Ev} {i : Nat} (h : i < L.length) : L[i]? = some (lX L i) := by
  unfold lX
  rw [List.getD_eq_getElem?_getD, List.getElem?_eq_getElem h]
  rfl
/-- the list that the law keeps -/
def EL (W : World) (qb g : Nat) (p : Option Addr) (c : Nat) (L : List Ev) : Prop := (p = none ∧ c = 0 ∧ L = []) ∨ ∃ b o, p = some ⟨b, o, none⟩ ∧ EvO W b o L.length (lX L) ∧ L.length ≤ c ∧ b ≠ qb ∧ b ≠ g
theorem EL.keep {W W' : World} {qb g g' c : Nat} {p : Option Addr} {L : List Ev} (h : EL W qb g p c L) (hC : Ch (S2 qb g) W W') (hg : g' = g ∨ W.heap.size ≤ g') : EL W' qb g' p c L := by
  rcases h with h | ⟨b, o, e, h1, h2, h3, h4⟩
  · exact .inl h
  · refine .inr ⟨b, o, e, h1.keep hC (by rintro (e | e); exact h3 e; exact h4 e), h2, h3, ?_⟩
    have := h1.1
    rcases hg with e | e <;> omega
theorem EL.later {W W' : World} {qb g c : Nat} {p : Option Addr} {L : List Ev} (h : EL W qb g p c L) (hb : Below W.heap.size W W') : EL W' qb g p c L := h.keep (Ch.below hb) (.inl rfl)
theorem EL.row {W W' : World} {qb g : Nat} {v : Value} {m : Nat} {Y : Nat → Ev} {L : List Ev} (h : EvRow W' W.heap.size v m Y) (hm : m = L.length) (hY : ∀ i, i < m → Y i = lX L i) (h1 : qb < W.heap.size) (h2 : g < W.heap.size) : ∃ p c, v = .slice p L.length c ∧ EL W' qb g p c L := by
  have h' := h.congr hm hY
  rcases Own.form h' with ⟨h3, h4⟩ | ⟨b, c, h3, h4, h5⟩
  · exact ⟨none, 0, by rw [h3, h4], .inl ⟨rfl, rfl, List.eq_nil_of_length_eq_zero h4⟩⟩
  · subst h3
    obtain ⟨r1, r2, r3⟩ := h'.evo
    exact ⟨_, c, rfl, .inr ⟨b, 0, rfl, r1, r3, by omega, by omega⟩⟩
/-- where a key lies in a sorted list -/
structure SK (L : List Ev) (kt ks kq : Int) (i : Nat) (th : Bool) : Prop where
  le : i ≤ L.length
  lo : ∀ j, j < i → keyCmp (lX L j).t (lX L j).s (lX L j).q kt ks kq = -1
  hi : i < L.length → keyCmp (lX L i).t (lX L i).s (lX L i).q kt ks kq ≠ -1
  at' : th = true → i < L.length ∧ cmpE kt ks kq (lX L i) = 0
  iff : th = true ↔ ∃ x ∈ L, cmpE kt ks kq x = 0
theorem lX_srt {L : List Ev} (h : L.Pairwise keyLt) : ∀ i j, i < j → j < L.length → keyLt (lX L i) (lX L j) := fun i j hij hj => by
  have h1 := lX_at (L := L) (i := i) (by omega)
  have h2 := lX_at hj
  rw [List.getElem?_eq_getElem (by omega)] at h1
  rw [List.getElem?_eq_getElem hj] at h2
  have h3 := List.pairwise_iff_getElem.1 h i j (by omega) hj hij
  rw [Option.some.inj h1, Option.some.inj h2] at h3
  exact h3
theorem seekE {W : World} {qb g c : Nat} {p : Option Addr} {L : List Ev} (kt ks kq : Int) (h : EL W qb g p c L) (hs : L.Pairwise keyLt) (hn : L.length ≤ 8192) : Calls Try.prog 28 #[.slice p L.length c, .agg #[.int .u64 kt, .int .i64 ks, .int .u64 kq]] W fun e W' => ∃ (i : Nat) (th : Bool), e = .returned (.tuple #[.int .i64 (i : Int), .bool th]) ∧ Below W.heap.size W W' ∧ SK L kt ks kq i th := by
  rcases h with ⟨rfl, rfl, rfl⟩ | ⟨b, o, rfl, h1, h2, _⟩
  · refine (seek0 kt ks kq W).mono ?_
    rintro e W' ⟨rfl, hb⟩
    exact ⟨0, false, rfl, hb, ⟨Nat.le_refl _, fun j hj => absurd hj (Nat.not_lt_zero _), fun h9 => absurd h9 (Nat.not_lt_zero _), fun h9 => (by cases h9), ⟨fun h9 => (by cases h9), fun ⟨x, hx, _⟩ => (by cases hx)⟩⟩⟩
  · refine (seekO b o L.length c (lX L) kt ks kq W h1 hn (lX_srt hs)).mono ?_
    rintro e W' ⟨i, th, rfl, hth, hb, h3, h4, h5, h6⟩
    refine ⟨i, th, rfl, hb, ⟨h4, h5, h6, h3, hth.trans ⟨?_, ?_⟩⟩⟩
    · rintro ⟨j, hj, hc⟩
      exact ⟨lX L j, List.mem_of_getElem? (lX_at hj), hc⟩
    · rintro ⟨x, hx, hc⟩
      obtain ⟨j, hj, e⟩ := List.getElem_of_mem hx
      have h9 := lX_at hj
      rw [List.getElem?_eq_getElem hj, e] at h9
      exact ⟨j, hj, by rw [← Option.some.inj h9]; exact hc⟩
/-- the list with an event put in at its place -/
theorem SK.ins {L L9 : List Ev} {e : Ev} {i : Nat} (h : SK L e.t e.s e.q i false) (hs : L.Pairwise keyLt) (h9 : L9.Pairwise keyLt) (hm : ∀ x, x ∈ L9 ↔ x = e ∨ x ∈ L) : L9 = L.take i ++ e :: L.drop i := by
  have hno : ∀ x ∈ L, cmpE e.t e.s e.q x ≠ 0 := fun x hx hc => by
    have := h.iff.2 ⟨x, hx, hc⟩
    cases this
  refine srt_ext h9 (List.pairwise_append.2 ⟨hs.sublist (List.take_sublist _ _), List.pairwise_cons.2 ⟨fun x hx => ?_, hs.sublist (List.drop_sublist _ _)⟩, fun a ha b hb => ?_⟩) fun x => ?_
  · obtain ⟨j, hj, rfl⟩ := List.getElem_of_mem hx
    rw [List.length_drop] at hj
    rw [List.getElem_drop]
    have h1 := lX_at (L := L) (i := i + j) (by omega)
    rw [List.getElem?_eq_getElem (by omega)] at h1
    have h2 := h.hi (by omega)
    have hne := hno _ (List.getElem_mem (l := L) (n := i + j) (by omega))
    rw [Option.some.inj h1] at hne ⊢
    rw [Ne, keyCmp_lt] at h2
    unfold cmpE at hne
    rw [Ne, keyCmp_eq] at hne
    rw [keyLt_iff]
    by_cases hj0 : j = 0
    · subst hj0
      rw [Nat.add_zero] at hne ⊢
      omega
    · have h3 := lX_srt hs i (i + j) (by omega) (by omega)
      rw [keyLt_iff] at h3
      omega
  · obtain ⟨j, hj, rfl⟩ := List.getElem_of_mem ha
    rw [List.length_take] at hj
    rw [List.getElem_take]
    have h1 := lX_at (L := L) (i := j) (by omega)
    rw [List.getElem?_eq_getElem (by omega)] at h1
    rw [Option.some.inj h1]
    have h2 := h.lo j (by omega)
    rcases List.mem_cons.1 hb with rfl | hb
    · exact h2
    · obtain ⟨k, hk, rfl⟩ := List.getElem_of_mem hb
      rw [List.length_drop] at hk
      rw [List.getElem_drop]
      have h3 := lX_at (L := L) (i := i + k) (by omega)
      rw [List.getElem?_eq_getElem (by omega)] at h3
      rw [Option.some.inj h3]
      exact lX_srt hs j (i + k) (by omega) (by omega)
  · rw [hm, List.mem_append, List.mem_cons]
    have hL : x ∈ L ↔ x ∈ L.take i ∨ x ∈ L.drop i := by
      rw [← List.mem_append, List.take_append_drop]
    rw [hL]
    constructor
    · rintro (h1 | h1 | h1)
      · exact .inr (.inl h1)
      · exact .inl h1
      · exact .inr (.inr h1)
    · rintro (h1 | h1 | h1)
      · exact .inr (.inl h1)
      · exact .inl h1
      · exact .inr (.inr h1)
/-- the list without the event of a key -/
theorem SK.del {L L1 L2 : List Ev} {x : Ev} {kt ks kq : Int} {i : Nat} (h : SK L kt ks kq i true) (hs : L.Pairwise keyLt) (hL : L = L1 ++ x :: L2) (hx : cmpE kt ks kq x = 0) : L1 ++ L2 = L.take i ++ L.drop (i + 1) ∧ lX L i = x ∧ i < L.length := by
  obtain ⟨h1, h2⟩ := h.at' rfl
  have hxi : lX L L1.length = x := by
    have h9 := lX_at (L := L) (i := L1.length) (by rw [hL]; simp)
    rw [hL, List.getElem?_append_right (Nat.le_refl _), Nat.sub_self, ← hL] at h9
    exact (Option.some.inj h9).symm
  have hl : L1.length < L.length := by rw [hL]; simp
  have hi : i = L1.length := by
    unfold cmpE at h2 hx
    rw [keyCmp_eq] at h2 hx
    rcases Nat.lt_trichotomy i L1.length with h9 | h9 | h9
    · have := lX_srt hs i L1.length h9 hl
      rw [keyLt_iff, hxi] at this
      omega
    · exact h9
    · have := lX_srt hs L1.length i h9 h1
      rw [keyLt_iff, hxi] at this
      omega
  subst hi
  refine ⟨?_, hxi, h1⟩
  rw [hL]
  simp
end Go.Proofs.Ytlklolmhaiaaiaa
