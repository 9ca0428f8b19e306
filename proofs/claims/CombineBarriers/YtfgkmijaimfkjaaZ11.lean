import Derived.Test.YtfgkmijaimfkjaaZ10
import Derived.Deep.DeepCutAuto
import Derived.Deep.CutBlock
import Derived.Deep.CutRange
namespace Go.Proofs.Ytfgkmijaimfkjaa
open Go.ChangeShapes Go.WideShapes Go.ChangeAt Go.RowKit
set_option linter.unusedVariables false
set_option linter.unusedSimpArgs false

def JZ (a b : Int) : Int := a
/-! ### purely: what a call may change -/
def qop (n : Nat) (N : Nt) (k x : Int) : Nt := if k = 0 then entN n N x 0 else if k = 1 then stpN JZ n N x else if k = 6 then waiN JZ n N x else N
def qmv (k x : Int) : Int := if k = 1 ∨ k = 6 then x else -1
/-- at most one flag, of this worker -/
def Qt (N N' : Nt) (m : Int) : Prop := ∀ w : Nat, ((N'.up w != N.up w) && (N'.dn w != N.dn w)) = false ∧ ((w : Int) ≠ m → N'.up w = N.up w ∧ N'.dn w = N.dn w)
theorem Qt.refl (N : Nt) (m : Int) : Qt N N m := fun w => ⟨by simp, fun _ => ⟨rfl, rfl⟩⟩
theorem Qt.of {N N' : Nt} {m : Int} (hu : N'.up = N.up) (hd : N'.dn = N.dn) : Qt N N' m := fun w => ⟨by simp [hu], fun _ => ⟨by rw [hu], by rw [hd]⟩⟩
theorem Qt.up {N N' : Nt} (i : Nat) (b : Bool) (hu : N'.up = upF N.up i b) (hd : N'.dn = N.dn) : Qt N N' (i : Int) := fun w => ⟨by simp [hd], fun hne => ⟨by rw [hu]; exact upF_ne _ _ (by omega), by rw [hd]⟩⟩
theorem Qt.dn {N N' : Nt} (i : Nat) (b : Bool) (hu : N'.up = N.up) (hd : N'.dn = upF N.dn i b) : Qt N N' (i : Int) := fun w => ⟨by simp [hu], fun hne => ⟨by rw [hu], by rw [hd]; exact upF_ne _ _ (by omega)⟩⟩
theorem qt_ent (n : Nat) (N : Nt) (x m : Int) : Qt N (entN n N x 0) m := by
  unfold entN
  split
  · exact Qt.of rfl rfl
  · exact Qt.refl _ _
theorem qt_step (n : Nat) (N : Nt) (w : Nat) : Qt N (stepN JZ n N w) (w : Int) := by
  unfold stepN
  split
  · unfold hearN
    split
    · exact Qt.of rfl rfl
    · exact Qt.refl _ _
  · split
    · unfold hearN
      split
      · exact Qt.of rfl rfl
      · exact Qt.refl _ _
    · split
      · exact Qt.up w _ rfl rfl
      · split
        · unfold hearPN
          split
          · exact Qt.of rfl rfl
          · exact Qt.refl _ _
        · exact Qt.dn w _ rfl rfl
theorem qt_stp (n : Nat) (N : Nt) (x : Int) : Qt N (stpN JZ n N x) x := by
  unfold stpN
  split
  · rename_i h
    obtain ⟨w, hw, rfl⟩ := inN_get h.1
    exact qt_step n N w
  · exact Qt.refl _ _
theorem qt_wai (n : Nat) (N : Nt) (x : Int) : Qt N (waiN JZ n N x) x := by
  unfold waiN
  split
  · exact qt_stp n N x
  · have h1 := qt_stp n (entN n N x 0) x
    have hu : (entN n N x 0).up = N.up := by unfold entN; split <;> rfl
    have hd : (entN n N x 0).dn = N.dn := by unfold entN; split <;> rfl
    intro w
    have := h1 w
    rw [hu, hd] at this
    exact this
theorem qt_op (n : Nat) (N : Nt) (k x : Int) : Qt N (qop n N k x) (qmv k x) := by
  unfold qop qmv
  by_cases h0 : k = 0
  · rw [if_pos h0]; exact qt_ent _ _ _ _
  · rw [if_neg h0]
    by_cases h1 : k = 1
    · rw [if_pos h1, if_pos (.inl h1)]; exact qt_stp _ _ _
    · rw [if_neg h1]
      by_cases h6 : k = 6
      · rw [if_pos h6, if_pos (.inr h6)]; exact qt_wai _ _ _
      · rw [if_neg h6]; exact Qt.refl _ _
/-- places and rounds stay small -/
structure Sm (N : Nt) (k : Nat) : Prop where
  p : ∀ w, N.pl w ≤ 5
  r : ∀ w, N.rd w ≤ k
theorem Sm.mono {N : Nt} {k m : Nat} (h : Sm N k) (hk : k ≤ m) : Sm N m := ⟨h.p, fun w => Nat.le_trans (h.r w) hk⟩
theorem Sm.ent {n : Nat} {N : Nt} {k : Nat} (h : Sm N k) (x : Int) : Sm (entN n N x 0) k := by
  unfold entN
  split
  · refine ⟨fun w => ?_, h.r⟩
    show upF N.pl x.toNat 1 w ≤ 5
    unfold upF
    split
    · omega
    · exact h.p w
  · exact h
theorem upF_le {F : Nat → Nat} {i v b : Nat} (h : ∀ w, F w ≤ b) (hv : v ≤ b) (w : Nat) : upF F i v w ≤ b := by
  unfold upF
  split
  · exact hv
  · exact h w
theorem Sm.step {n : Nat} {N : Nt} {k : Nat} (h : Sm N k) (w : Nat) (hw0 : 0 < N.pl w) : Sm (stepN JZ n N w) (k + 1) := by
  have h5 := h.p w
  unfold stepN
  split
  · rename_i h1
    unfold hearN
    split
    · exact ⟨upF_le h.p (by omega), fun i => Nat.le_succ_of_le (h.r i)⟩
    · exact h.mono (Nat.le_succ _)
  · split
    · rename_i h1
      unfold hearN
      split
      · exact ⟨upF_le h.p (by omega), fun i => Nat.le_succ_of_le (h.r i)⟩
      · exact h.mono (Nat.le_succ _)
    · split
      · exact ⟨upF_le h.p (by omega), fun i => Nat.le_succ_of_le (h.r i)⟩
      · split
        · unfold hearPN
          split
          · exact ⟨upF_le h.p (by omega), fun i => Nat.le_succ_of_le (h.r i)⟩
          · exact h.mono (Nat.le_succ _)
        · exact ⟨upF_le h.p (by omega), upF_le (fun i => Nat.le_succ_of_le (h.r i)) (by have := h.r w; omega)⟩
theorem Sm.stp {n : Nat} {N : Nt} {k : Nat} (h : Sm N k) (x : Int) : Sm (stpN JZ n N x) (k + 1) := by
  unfold stpN
  split
  · rename_i h1
    exact h.step _ (by omega)
  · exact h.mono (Nat.le_succ _)
theorem Sm.wai {n : Nat} {N : Nt} {k : Nat} (h : Sm N k) (x : Int) : Sm (waiN JZ n N x) (k + 1) := by
  unfold waiN
  split
  · exact h.stp x
  · exact (h.ent x).stp x
theorem Sm.op {n : Nat} {N : Nt} {k : Nat} (h : Sm N k) (y x : Int) : Sm (qop n N y x) (k + 1) := by
  unfold qop
  split
  · exact (h.ent x).mono (Nat.le_succ _)
  · split
    · exact h.stp x
    · split
      · exact h.wai x
      · exact h.mono (Nat.le_succ _)
/-! ### two lists of flags -/
theorem CList.cells {W : World} {base g n : Nat} {U D : Nat → Bool} (h : CList W base g n U D) {k : Nat} (hk : k < n) : W.cell? ⟨g, k * 2, none⟩ = some (.bool (U k)) ∧ W.cell? ⟨g, k * 2 + 1, none⟩ = some (.bool (D k)) := by
  refine ⟨?_, ?_⟩
  · have := Own.cell h (j := k * 2) (by omega)
    rw [this]
    unfold flC
    rw [if_pos (by omega), show k * 2 / 2 = k by omega]
  · have := Own.cell h (j := k * 2 + 1) (by omega)
    rw [this]
    unfold flC
    rw [if_neg (by omega), show (k * 2 + 1) / 2 = k by omega]
theorem CList.below {W W' : World} {base g n : Nat} {U D : Nat → Bool} (h : CList W base g n U D) (hb : Below W.heap.size W W') : CList W' base g n U D := Own.later h hb
theorem CList.ch {W W' : World} {base g n hb wb cb pb b2 : Nat} {N N' : Nt} {U D : Nat → Bool} (h : CList W base g n U D) (hz : BZ b2 pb hb wb cb n N W) (hc : Ch (S2 wb cb) W W') : CList W' base g n U D := by
  obtain ⟨cu, hcu, _⟩ := Own.block h
  obtain ⟨c1, h1, _⟩ := hz.net.row.block
  obtain ⟨c2, h2, _⟩ := hz.net.cel.block
  have n1 : g ≠ wb := typ_ne hcu h1 (by decide)
  have n2 : g ≠ cb := typ_ne hcu h2 (by decide)
  exact Own.far h fun k e => by cases e; exact hc.block _ (lt_of_block hcu) (fun e => e.elim n1 n2)
set_option maxRecDepth 100000 in
set_option maxHeartbeats 1000000 in
theorem sameC_yes {b1 b2 g1 g2 n : Nat} {U D : Nat → Bool} (hn : n ≤ 64) (W : World) (h1 : CList W b1 g1 n U D) (h2 : CList W b2 g2 n U D) : Calls Try.prog 10 #[.slice (some ⟨g1, 0, none⟩) n n, .slice (some ⟨g2, 0, none⟩) n n] W fun e W' => e = .returned (.bool true) ∧ Below W.heap.size W W' := by
  have HH : Hid (CList W b1 g1 n U D ∧ CList W b2 g2 n U D) := ⟨h1, h2⟩
  clear h1 h2
  go_enter Try.func10, Try.ntmps10
  go_wp2_with fail
  go_loopw [13] (fun x wr => ∃ k : Nat, x = .int .i64 (k : Int) ∧ k ≤ n ∧ Below W.heap.size W wr) (fun x _ => n - (intOf x).toNat)
  case atStart => exact ⟨0, rfl, Nat.zero_le _, Below.refl _ _⟩
  case round =>
    obtain ⟨k, rfl, hk, hbr⟩ := hrel
    by_cases hlt : k < n
    · have dl : decide ((k : Int) < (n : Int)) = true := by simp; omega
      have hm := meas hlt
      have i0 : (0 : Int) ≤ (k : Int) := by omega
      have i1 : (k : Int) < (n : Int) := by omega
      have ek : IntKind.i64.wrap ((k : Int) + 1) = (k : Int) + 1 := by rw [IntKind.wrap_i64]; omega
      obtain ⟨a0, a1⟩ := (HH.out.1.below hbr).cells hlt
      obtain ⟨a2, a3⟩ := (HH.out.2.below hbr).cells hlt
      generalize U k = u at *
      generalize D k = d at *
      go_wp2_with fail
      go_quiet (fail)
      go_wp2_with fail
      exact ⟨⟨k + 1, rfl, hlt, hbr.trans ((below_drewNq _ _ _).mono hbr.size)⟩, hm⟩
    · have dl : decide ((k : Int) < (n : Int)) = false := by simp; omega
      obtain rfl : k = n := by omega
      go_wp2_with fail
      go_ret
      exact ⟨rfl, hbr⟩
end Go.Proofs.Ytfgkmijaimfkjaa
