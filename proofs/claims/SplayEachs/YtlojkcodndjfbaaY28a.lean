import Derived.Test.YtlojkcodndjfbaaY27
namespace Go.Proofs.Ytlojkcodndjfbaa
open Go.ChangeShapes Go.WideShapes Go.ChangeAt Go.RowKit
set_option linter.unusedVariables false
set_option linter.unusedSimpArgs false

theorem keyLt_irr (a : Ev) : ¬ keyLt a a := by
  rw [keyLt_iff]
  omega
theorem keyLt_asym {a b : Ev} (h : keyLt a b) : ¬ keyLt b a := by
  rw [keyLt_iff] at h ⊢
  omega
theorem keyLt_ne {a b : Ev} (h : keyLt a b) : cmpE a.t a.s a.q b ≠ 0 ∧ cmpE b.t b.s b.q a ≠ 0 := by
  rw [keyLt_iff] at h
  unfold cmpE
  rw [ne_eq, ne_eq, keyCmp_eq, keyCmp_eq]
  omega
theorem srt_ext : ∀ {L M : List Ev}, L.Pairwise keyLt → M.Pairwise keyLt → (∀ x, x ∈ L ↔ x ∈ M) → L = M
  | [], [], _, _, _ => rfl
  | [], b :: M, _, _, h => absurd ((h b).2 (List.mem_cons_self ..)) (by simp)
  | a :: L, [], _, _, h => absurd ((h a).1 (List.mem_cons_self ..)) (by simp)
  | a :: L, b :: M, h1, h2, h => by
    have h1' := List.pairwise_cons.1 h1
    have h2' := List.pairwise_cons.1 h2
    have hab : a = b := by
      rcases List.mem_cons.1 ((h a).1 (List.mem_cons_self ..)) with e | e
      · exact e
      · rcases List.mem_cons.1 ((h b).2 (List.mem_cons_self ..)) with e2 | e2
        · exact e2.symm
        · exact absurd (h1'.1 b e2) (keyLt_asym (h2'.1 a e))
    subst hab
    refine congrArg (a :: ·) (srt_ext h1'.2 h2'.2 fun x => ⟨fun hx => ?_, fun hx => ?_⟩)
    · rcases List.mem_cons.1 ((h x).1 (List.mem_cons_of_mem _ hx)) with e | e
      · subst e; exact absurd (h1'.1 _ hx) (keyLt_irr _)
      · exact e
    · rcases List.mem_cons.1 ((h x).2 (List.mem_cons_of_mem _ hx)) with e | e
      · subst e; exact absurd (h2'.1 _ hx) (keyLt_irr _)
      · exact e
theorem QS.srt {base qb g : Nat} {room wb : Int} {L : List Ev} {W : World} (h : QS base qb g room wb L W) : L.Pairwise keyLt := by
  obtain ⟨c, n, A, t, fl, root, work, hq, hL, hw⟩ := h
  rw [hL]
  exact List.pairwise_map.2 hq.srt
/-- what was taken out of a sorted list goes in again, from the back -/
theorem putBack {L1 L2 : List Ev} (h : (L1 ++ L2).Pairwise keyLt) {k : Nat} {e : Ev} (he : L2[k]? = some e) : (¬ ∃ x ∈ L1 ++ L2.drop (k + 1), cmpE e.t e.s e.q x = 0) ∧ ∀ L' : List Ev, L'.Pairwise keyLt → (∀ x, x ∈ L' ↔ x = e ∨ x ∈ L1 ++ L2.drop (k + 1)) → L' = L1 ++ L2.drop k := by
  obtain ⟨hk, he2⟩ := List.getElem?_eq_some_iff.1 he
  have hd : L2.drop k = e :: L2.drop (k + 1) := by rw [List.drop_eq_getElem_cons hk, he2]
  have hp : (L1 ++ L2.drop k).Pairwise keyLt := h.sublist (List.Sublist.append_left (List.drop_sublist _ _) _)
  rw [hd] at hp ⊢
  have hp2 := List.pairwise_append.1 hp
  refine ⟨?_, fun L' hs hm => srt_ext hs hp fun x => ?_⟩
  · rintro ⟨x, hx, hc⟩
    rcases List.mem_append.1 hx with h9 | h9
    · exact (keyLt_ne (hp2.2.2 x h9 e (List.mem_cons_self ..))).2 hc
    · exact (keyLt_ne ((List.pairwise_cons.1 hp2.2.1).1 x h9)).1 hc
  · rw [hm, List.mem_append, List.mem_append, List.mem_cons]
    constructor
    · rintro (h9 | h9 | h9)
      · exact .inr (.inl h9)
      · exact .inl h9
      · exact .inr (.inr h9)
    · rintro (h9 | h9 | h9)
      · exact .inr (.inl h9)
      · exact .inl h9
      · exact .inr (.inr h9)
theorem EvsL.keep {W W' : World} {b N : Nat} {X : Nat → Ev} {S : Nat → Prop} (h : EvsL W b N X) (hc : Ch S W W') (hs : ¬ S b) : EvsL W' b N X := ⟨Nat.lt_of_lt_of_le h.1 hc.size, fun i r hi hr => (World.cell?_of_block (hc.block b h.1 hs)).trans (h.2 i r hi hr)⟩
/-- the cells of the list that two sides see -/
theorem EvsL.xatEq {W : World} {b N : Nat} {X Y : Nat → Ev} (h : EvsL W b N X) (o m : Nat) (ho : o + m ≤ N) (he : ∀ i, i < m → X (o + i) = Y i) : XAt W (some ⟨b, o * 6, none⟩) m (fun j => evC (Y (j / 6)) (j % 6)) :=
  (h.xat o m ho).congr fun j hj => by rw [he (j / 6) (by omega)]
end Go.Proofs.Ytlojkcodndjfbaa
