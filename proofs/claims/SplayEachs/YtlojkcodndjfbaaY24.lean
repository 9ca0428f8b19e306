import Derived.Test.YtlojkcodndjfbaaY23
namespace Go.Proofs.Ytlojkcodndjfbaa
open Go.ChangeShapes Go.WideShapes Go.ChangeAt Go.RowKit
set_option linter.unusedVariables false
set_option linter.unusedSimpArgs false

/-- a tree cut at a time -/
theorem cutT {W : World} {base qb g c n : Nat} {A : Ar} {t : Tr} {fl : List Nat} {root : Nat} {room work : Int} (h : QI W base qb g c n A t fl root room work) (u : Int) :
    (openT (sdT u A.E) t).m = 0 ∧ t.ps = (openT (sdT u A.E) t).a.ps ++ (openT (sdT u A.E) t).b.ps ∧ (∀ p ∈ (openT (sdT u A.E) t).a.ps, (A.E p).t < u) ∧ ∀ p ∈ (openT (sdT u A.E) t).b.ps, u ≤ (A.E p).t := by
  have hps := openT_ps (side_sdT u A.E) t.size t (Nat.le_refl _) h.neT
  obtain ⟨hs1, hs2, hs3⟩ := openT_side (s := fun p => if u ≤ (A.E p).t then 0 else 1) (side_sdT u A.E) (fun _ _ _ => rfl) t.size t (Nat.le_refl _) h.neT (h.srt.imp fun {p q} h9 => by
    have h8 := (keyCmp_lt _ _ _ _ _ _).1 h9
    by_cases h7 : u ≤ (A.E q).t
    · exact .inr (if_pos h7)
    · exact .inl (if_neg (by omega)))
  have hm : (openT (sdT u A.E) t).m = 0 := by
    by_cases h9 : (openT (sdT u A.E) t).m = 0
    · exact h9
    · have h8 := hs3 h9
      split at h8 <;> omega
  rw [hm, mid0, List.append_nil] at hps
  refine ⟨hm, hps.symm, fun p hp => ?_, fun p hp => ?_⟩
  · have h8 := hs1 p hp
    split at h8
    · omega
    · omega
  · have h8 := hs2 p hp
    split at h8
    · assumption
    · omega
/-- what is left when b is cut off and its places are free -/
theorem cutQ {W W' : World} {base qb g c n : Nat} {A A2 A' : Ar} {t a b : Tr} {fl : List Nat} {root ra : Nat} {room work work' : Int} (h : QI W base qb g c n A t fl root room work) (hps : t.ps = a.ps ++ b.ps) (hE : A2.E = A.E) (hla : a.lies A2.L A2.R ra) (hout : ∀ p, p ∉ t.ps → A2.L p = A.L p ∧ A2.R p = A.R p) (ho : ∀ p, p ∉ b.ps → A'.E p = A2.E p ∧ A'.L p = A2.L p ∧ A'.R p = A2.R p) (hf : FLs A'.L (b.ps.reverse ++ fl)) (hq : QW W' base qb g c n A' (((b.ps.reverse ++ fl).headD 0 : Nat) : Int) ra ((t.size - b.size : Nat) : Int) room work') (hw : 0 ≤ work') :
    QI W' base qb g c n A' a (b.ps.reverse ++ fl) ra room work' ∧ a.ps.map A'.E = a.ps.map A.E := by
  have hsz : t.size = a.size + b.size := by
    have := congrArg List.length hps
    rw [List.length_append, Tr.size_ps, Tr.size_ps, Tr.size_ps] at this
    exact this
  have hnd := h.ndT
  rw [hps] at hnd
  have hnd2 := List.nodup_append.1 hnd
  have hnb : ∀ p ∈ a.ps, p ∉ b.ps := fun p hp hp2 => hnd2.2.2 p hp p hp2 rfl
  have h0 : (0 : Nat) ∉ t.ps := fun hq => h.neT 0 hq rfl
  have h0b : (0 : Nat) ∉ b.ps := fun h9 => h0 (by rw [hps]; simp [h9])
  refine ⟨⟨?_, ?_, hf, ?_, ?_, ?_, ?_, h.nr, h.rm, ?_, hw⟩, List.map_congr_left fun q hq => by rw [(ho q (hnb q hq)).1, hE]⟩
  · rw [show ((a.size : Nat) : Int) = ((t.size - b.size : Nat) : Int) by omega]
    exact hq
  · exact Tr.lies_congr hla fun q hq => (ho q (hnb q hq)).2
  · have h9 := h.nd
    rw [hps, List.append_assoc] at h9
    refine (List.Perm.nodup_iff ?_).1 h9
    exact List.Perm.append_left _ (List.Perm.append_right _ (List.reverse_perm _).symm)
  · intro p hp
    refine h.inr p ?_
    rw [hps]
    simp only [List.mem_append, List.mem_reverse] at hp ⊢
    rcases hp with h9 | h9 | h9
    · exact .inl (.inl h9)
    · exact .inl (.inr h9)
    · exact .inr h9
  · have := h.cnt
    rw [List.length_append, List.length_reverse, Tr.size_ps]
    omega
  · rw [(ho 0 h0b).2.1, (ho 0 h0b).2.2, (hout 0 h0).1, (hout 0 h0).2]
    exact h.z
  · have hs := h.srt
    rw [hps] at hs
    have h8 := (List.pairwise_append.1 hs).1
    exact h8.imp_of_mem fun {x y} hx hy h2 => by rw [(ho x (hnb x hx)).1, (ho y (hnb y hy)).1, hE]; exact h2
end Go.Proofs.Ytlojkcodndjfbaa
