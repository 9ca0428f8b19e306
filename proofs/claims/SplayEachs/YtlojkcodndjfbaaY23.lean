import Derived.Test.YtlojkcodndjfbaaY22
namespace Go.Proofs.Ytlojkcodndjfbaa
open Go.ChangeShapes Go.WideShapes Go.ChangeAt Go.RowKit
set_option linter.unusedVariables false
set_option linter.unusedSimpArgs false

theorem enterSp (args : Array Value) (W : World) : Sem.run Try.prog (callFunc 39 args) W = .ok (.enter 39 args) W := by go_simp
/-- the free places, when those of sn are given out -/
def flS (sn : List (Nat × Nat)) (fl : List Nat) : List Nat := (sn.map Prod.fst).reverse ++ fl
theorem flS_push (sn : List (Nat × Nat)) (fl : List Nat) (p d : Nat) : flS (sn ++ [(p, d)]) fl = p :: flS sn fl := by
  simp [flS]
def SJJ (base b0 qb g c n : Nat) (A : Ar) (fl : List Nat) (r : Int) (s0 : Nat) (m k : Int) (lb pb : Nat) (sn : List (Nat × Nat)) (F : Nat → Prop) (W : World) : Prop :=
  ∃ A' lv, SJ base b0 qb g c n A' A.E ((flS sn fl).headD 0) r (s0 - sn.length) m k lb pb sn lv W ∧ F = LF qb g lb pb lv ∧ b0 ≤ W.heap.size ∧ (∀ p, p ∉ sn.map Prod.fst → A'.E p = A.E p ∧ A'.L p = A.L p ∧ A'.R p = A.R p) ∧ FLs A'.L (flS sn fl)
theorem seeSplit (base b0 qb g c n : Nat) (A : Ar) (fl : List Nat) (r : Int) (s0 : Nat) (m k : Int) (lb pb : Nat) (t0 : Tr) (hn : n ≤ 8193) (hin : ∀ p ∈ t0.ps, p < n) (hnd : (t0.ps ++ fl).Nodup) (hsz : t0.size ≤ s0 ∧ s0 ≤ 8192) : SeeOk 39 #[.pointer (some ⟨lb, 0, none⟩), .pointer (some ⟨pb, 0, none⟩)] base qb g c n A (t0.spots 0) (SJJ base b0 qb g c n A fl r s0 m k lb pb) := by
  have hnd2 := List.nodup_append.1 hnd
  refine ⟨?_, ?_, ?_, ?_⟩
  · rintro sn F W ⟨A', lv, h, rfl, _⟩ k hk
    exact h.ltF k hk
  · rintro sn F W W' ⟨A', lv, h, rfl, hb, ho, hf⟩ hF hs
    exact ⟨A', lv, h.later hF, rfl, Nat.le_trans hb hs, ho, hf⟩
  · rintro sn F W ⟨A', lv, h, rfl, _, ho, _⟩
    exact ⟨.inl rfl, .inr (.inl rfl), A', _, _, _, _, _, h.q, fun p hp => (ho p hp).2⟩
  · rintro sn F W p d rest ⟨A', lv, h, rfl, hb, ho, hf⟩ htot
    have hlen : sn.length + 1 ≤ t0.size := by
      have := congrArg List.length htot
      rw [spots_len] at this
      simp at this
      omega
    have hpt := mem_tot htot
    have hps := new_tot hnd2.1 htot
    have hpf : p ∉ flS sn fl := by
      intro h9
      rcases List.mem_append.1 h9 with h8 | h8
      · exact hps (List.mem_reverse.1 h8)
      · exact hnd2.2.2 p hpt p h8 rfl
    refine (split1_any base b0 qb g c n A' A.E _ r (s0 - sn.length) m k lb pb sn lv p d W h (ho p hps).1 (hin p hpt) hn (by omega) (by omega) hb).mono ?_
    rintro e W' ⟨rfl, lv', h', hat, hC⟩
    have hne : ∀ q, q ≠ p → (A'.set p ev0 ((flS sn fl).headD 0) 0).E q = A'.E q ∧ (A'.set p ev0 ((flS sn fl).headD 0) 0).L q = A'.L q ∧ (A'.set p ev0 ((flS sn fl).headD 0) 0).R q = A'.R q := fun q hq => ⟨by show updE _ _ _ q = _; unfold updE; rw [if_neg hq], upd_ne _ _ hq, upd_ne _ _ hq⟩
    refine ⟨rfl, LF qb g lb pb lv', ⟨A'.set p ev0 ((flS sn fl).headD 0) 0, lv', ?_, rfl, Nat.le_trans hb hC.size, fun q hq => ?_, ?_⟩, ?_, hC⟩
    · rw [flS_push, show s0 - (sn ++ [(p, d)]).length = s0 - sn.length - 1 by simp; omega]
      exact h'
    · have h1 : q ∉ sn.map Prod.fst := fun h9 => hq (by simp only [List.map_append, List.mem_append]; exact .inl h9)
      have h2 : q ≠ p := fun h9 => hq (by subst h9; simp)
      have h3 := hne q h2
      have h4 := ho q h1
      exact ⟨h3.1.trans h4.1, h3.2.1.trans h4.2.1, h3.2.2.trans h4.2.2⟩
    · rw [flS_push]
      exact ⟨upd_at _ _ _, FLs.congr hf fun q hq => (hne q (fun h9 => hpf (h9 ▸ hq))).2.1⟩
    · rintro k9 (rfl | rfl | rfl | rfl | hk)
      · exact .inl (.inl rfl)
      · exact .inl (.inr (.inl rfl))
      · exact .inl (.inr (.inr (.inl rfl)))
      · exact .inl (.inr (.inr (.inr (.inl rfl))))
      · rcases hat with h2 | ⟨k8, h2, h3⟩
        · exact .inl (.inr (.inr (.inr (.inr (h2 ▸ hk)))))
        · rw [h2] at hk
          have := Option.some.inj hk
          exact .inr (by omega)
end Go.Proofs.Ytlojkcodndjfbaa
