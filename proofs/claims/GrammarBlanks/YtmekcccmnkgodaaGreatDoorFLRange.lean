import Derived.Test.YtmekcccmnkgodaaGreatDoorFLRead
import Derived.RangeFuncNested
import Derived.RangeFuncBound
import Derived.RangeFuncCalls
import Derived.RangeFuncLeaves
import Derived.OwnWalkIn
import Derived.TacticsInMore
import Derived.Laws.Tables
import Derived.Scope
namespace Go.Proofs.YtmekcccmnkgodaaGreatDoor
open Go.ChangeShapes Go.WideShapes Go.ChangeAt Go.RowKit
set_option linter.unusedVariables false

theorem mkK_eq (t : Bs) : ∀ (n k : Nat), mkK t (n + 1) k = if spl k = t then k else mkK t n (k + 1) := fun _ _ => rfl
set_option maxRecDepth 100000 in
theorem markKind_any (t : Bs) (w : World) (g : Sp w) :
    Calls Tryz.prog 91 #[.string ⟨t.toArray⟩] w fun e w' => e = .returned (.int .i64 (markK t)) ∧ w' = w := by
  go_enter Tryz.func91, Tryz.ntmps91
  go_wp2
  go_loop [3] (fun v => ∃ k n : Nat, v = .int .i64 k ∧ k + n = 80 ∧ 50 ≤ k ∧ Hid (markK t = mkK t n k)) (fun v => 80 - (intOf v).toNat)
  case atStart => exact ⟨50, 30, rfl, rfl, by omega, rfl⟩
  case round =>
    obtain ⟨k, n, rfl, hkn, hk, hinv⟩ := hrel
    cases n with
    | zero =>
      have d0 : decide ((k : Int) ≤ 79) = false := decide_eq_false (by omega)
      have e : Hid (markK t = 0) := by show markK t = 0; rw [hinv.out]; rfl
      clear hinv
      go_wp2
      go_ret
      exact ⟨by rw [e.out]; rfl, rfl⟩
    | succ n =>
      have d0 : decide ((k : Int) ≤ 79) = true := decide_eq_true (by omega)
      have hc := g k (by omega)
      by_cases he : spl k = t
      · have hs : (spl k == t) = true := by simpa using he
        have e : Hid (markK t = k) := by show markK t = k; rw [hinv.out, mkK_eq, if_pos he]
        clear hinv g he
        go_wp2
        go_ret
        exact ⟨by rw [e.out]; rfl, rfl⟩
      · have hs : (spl k == t) = false := by simpa using he
        have e : Hid (markK t = mkK t n (k + 1)) := by show markK t = _; rw [hinv.out, mkK_eq, if_neg he]
        clear hinv g he
        go_wp2
        go_round
        case rel => exact ⟨k + 1, n, by go_num, by omega, by omega, e⟩
        case measure => simp [intOf]; omega

theorem markLength_any (s : Bs) (hl : s.length ≤ maxLen) (hne : s ≠ []) (w : World) :
    Calls Tryz.prog 90 #[.string ⟨s.toArray⟩] w fun e w' => e = .returned (.int .i64 (markL s)) ∧ Below w.heap.size w w' := by
  match s, hne with
  | [c], _ =>
    have e : markL [c] = 1 := rfl
    rw [e]
    go_enter Tryz.func90, Tryz.ntmps90
    go_wp2
    go_ret
    exact ⟨rfl, Below.refl _ _⟩
  | c :: d :: r, _ =>
    have hne1 : (c :: d :: r).length ≠ 1 := by simp
    have hln : 1 < (c :: d :: r).length := by simp
    have hml : markL (c :: d :: r) = if (c.toNat = 60 ∨ c.toNat = 62 ∨ c.toNat = 124 ∨ c.toNat = 38) ∧ d.toNat = c.toNat then 2 else if (c.toNat = 60 ∨ c.toNat = 62 ∨ c.toNat = 61 ∨ c.toNat = 33) ∧ d.toNat = 61 then 2 else 1 := rfl
    obtain ⟨s, hs⟩ : ∃ s, c :: d :: r = s := ⟨_, rfl⟩
    have hs0 : ∀ h, ((⟨s.toArray⟩ : ByteArray)[0]'h) = c := by subst hs; intro h; rfl
    have hs1 : ∀ h, ((⟨s.toArray⟩ : ByteArray)[1]'h) = d := by subst hs; intro h; rfl
    have hsz : (⟨s.toArray⟩ : ByteArray).size = s.length := by simp [ByteArray.size]
    rw [hs] at hl hne1 hln hml ⊢
    clear hs
    have d1 : ((s.length : Int) == 1) = false := by simp; omega
    have e0 : (⟨s.toArray⟩ : ByteArray)[0]'(by omega) = c := hs0 _
    have e1 : (⟨s.toArray⟩ : ByteArray)[1]'(by omega) = d := hs1 _
    clear hs0 hs1
    generalize markL s = m at *
    go_enter Tryz.func90, Tryz.ntmps90
    go_wp2
    all_goals (try (go_region; go_wp2))
    all_goals (try (go_region; go_wp2))
    all_goals go_ret
    all_goals (refine ⟨congrArg (fun x : Int => Ending.returned (Value.int .i64 x)) ?_, by first | exact Below.refl _ _ | exact (Below.refl _ _).drew⟩)
    all_goals (simp only [beq_iff_eq, beq_eq_false_iff_ne, ne_eq] at *)
    all_goals (rw [hml]; split)
    all_goals first | omega | (split <;> omega)

/-- what readMark makes of a text -/
def rdM (s : Bs) : Rd := if markK (s.take (markL s)) = 0 then .err 31 else .ok (markK (s.take (markL s))) (s.take (markL s)) 0

theorem markL_le (s : Bs) (h : s ≠ []) : markL s ≤ s.length := by
  unfold markL
  split
  · split
    · simp
    · split <;> simp
  · exact List.length_pos_iff.2 h

set_option maxRecDepth 100000 in
theorem readMark_any (s : Bs) (hl : s.length ≤ maxLen) (hne : s ≠ []) (w : World) (g : Sp w) :
    Calls Tryz.prog 69 #[.string ⟨s.toArray⟩] w fun e w' => e = .returned (rdV (rdM s)) ∧ Below w.heap.size w w' := by
  have hle := markL_le s hne
  have htake : (⟨s.toArray⟩ : ByteArray).extract 0 (markL s) = ⟨(s.take (markL s)).toArray⟩ := ext_take s _
  have HL : ∀ w', Hid (Calls Tryz.prog 90 #[.string ⟨s.toArray⟩] w' fun e w'' => e = .returned (.int .i64 (markL s)) ∧ Below w'.heap.size w' w'') := fun w' => markLength_any s hl hne w'
  have HK : ∀ w', Below w.heap.size w w' → Hid (Calls Tryz.prog 91 #[.string ⟨(s.take (markL s)).toArray⟩] w' fun e w'' => e = .returned (.int .i64 (markK (s.take (markL s)))) ∧ w'' = w') := fun w' hb => markKind_any _ w' (g.keep hb)
  have hsz : (⟨s.toArray⟩ : ByteArray).size = s.length := by simp [ByteArray.size]
  unfold rdM
  clear g
  generalize s.take (markL s) = t at *
  generalize markL s = m at *
  by_cases h0 : markK t = 0
  · rw [if_pos h0]
    rw [h0] at HK
    go_enter Tryz.func69, Tryz.ntmps69
    go_wp2_with (first | (go_at_call 90; with_reducible refine ((HL _).out).mono ?_; rintro e w' ⟨rfl, hb1⟩; obtain ⟨hg1, hb2⟩ := new_kept hb1; clear hb1) | (go_at_call 91; with_reducible refine ((HK _ hb2).out).mono ?_; rintro e w'' ⟨rfl, hw⟩; subst w'') | (refine wpList_store_row rfl _ _ _ rfl w.heap.size #[.int .i64 0, .string ⟨#[]⟩, .int .u64 0, .int .i64 0, .int .i64 0] rfl rfl _ _ hg1 (by kernel_rfl) rfl (by kernel_rfl) ?_; obtain ⟨w9, hw9, hr9, k0, k1, k2, k3, k4, hb9⟩ := row5 hg1 hb2 (Nat.le_refl _) (.int .i64 0) (.string ⟨#[]⟩) (.int .u64 0) (.int .i64 0) (.int .i64 0); rw [hw9]; clear hw9 hg1 hb2))
    refine bodyPost_ret (by simp [results, Tryz.results69, go_sem, k0, k1, k2, k3, k4]; try rfl) rfl ?_
    exact ⟨rfl, hb9⟩
  · rw [if_neg h0]
    have d0 : ((markK t : Int) == 0) = false := by simp; omega
    go_enter Tryz.func69, Tryz.ntmps69
    go_wp2_with (first | (go_at_call 90; with_reducible refine ((HL _).out).mono ?_; rintro e w' ⟨rfl, hb1⟩; obtain ⟨hg1, hb2⟩ := new_kept hb1; clear hb1) | (go_at_call 91; with_reducible refine ((HK _ hb2).out).mono ?_; rintro e w'' ⟨rfl, hw⟩; subst w'') | (refine wpList_store_row rfl _ _ _ rfl w.heap.size #[.int .i64 (markK t), .string ⟨t.toArray⟩, .int .u64 0, .int .i64 0, .int .i64 0] rfl rfl _ _ hg1 (by kernel_rfl) rfl (by kernel_rfl) ?_; obtain ⟨w9, hw9, hr9, k0, k1, k2, k3, k4, hb9⟩ := row5 hg1 hb2 (Nat.le_refl _) (.int .i64 (markK t)) (.string ⟨t.toArray⟩) (.int .u64 0) (.int .i64 0) (.int .i64 0); rw [hw9]; clear hw9 hg1 hb2))
    refine bodyPost_ret (by simp [results, Tryz.results69, go_sem, k0, k1, k2, k3, k4]; try rfl) rfl ?_
    exact ⟨rfl, hb9⟩

/-- a reading's value: its token's cells and its code -/
def rdC : Rd → Value × Value × Value × Value
  | .err e => (.int .i64 0, .string ⟨#[]⟩, .int .u64 0, .int .i64 e)
  | .ok k t v => (.int .i64 k, .string ⟨t.toArray⟩, .int .u64 v, .int .i64 0)
theorem rdV_eq (r : Rd) : ∃ c0 c1 c2 c5, (∃ z, c0 = .int .i64 z) ∧ (∃ b, c1 = .string b) ∧ (∃ z, c2 = .int .u64 z) ∧ (∃ z, c5 = .int .i64 z) ∧ rdV r = .tuple #[.agg #[c0, c1, c2, .int .i64 0, .int .i64 0], c5] := by
  cases r with
  | err e => exact ⟨_, _, _, _, ⟨0, rfl⟩, ⟨_, rfl⟩, ⟨_, rfl⟩, ⟨_, rfl⟩, rfl⟩
  | ok k t v => exact ⟨_, _, _, _, ⟨_, rfl⟩, ⟨_, rfl⟩, ⟨_, rfl⟩, ⟨_, rfl⟩, rfl⟩
theorem rd_name (c : UInt8) (r : Bs) (h : pL c = true) : rd (c :: r) = rdN (c :: r) := by unfold rd; rw [if_pos (show headIs pL (c :: r) = true from h)]; rfl
theorem rd_num (c : UInt8) (r : Bs) (h : pL c = false) (h2 : pD c = true) : rd (c :: r) = rdD (c :: r) := by
  unfold rd
  rw [if_neg (by rw [show headIs pL (c :: r) = pL c from rfl, h]; simp), if_pos (show headIs pD (c :: r) = true from h2)]
  rfl
theorem rd_mark (c : UInt8) (r : Bs) (h : pL c = false) (h2 : pD c = false) : rd (c :: r) = rdM (c :: r) := by
  unfold rd
  rw [if_neg (by rw [show headIs pL (c :: r) = pL c from rfl, h]; simp), if_neg (by rw [show headIs pD (c :: r) = pD c from rfl, h2]; simp)]
  rfl

set_option maxRecDepth 100000 in
theorem read_any (c : UInt8) (r : Bs) (hl : (c :: r).length ≤ 281474976710656) (w : World) (g : Gr w) :
    Calls Tryz.prog 46 #[.string ⟨(c :: r).toArray⟩] w fun e w' => e = .returned (rdV (rd (c :: r))) ∧ Below w.heap.size w w' := by
  have hmx : (c :: r).length ≤ maxLen := Nat.le_trans hl (by unfold maxLen; omega)
  have hnm := rd_name c r
  have hnu := rd_num c r
  have hma := rd_mark c r
  have hne : c :: r ≠ [] := by simp
  obtain ⟨s, hs⟩ : ∃ s, c :: r = s := ⟨_, rfl⟩
  have hlt : 0 < (⟨s.toArray⟩ : ByteArray).size := by rw [← hs]; simp [ByteArray.size]
  have h0 : ((⟨s.toArray⟩ : ByteArray)[0]'hlt) = c := by subst hs; rfl
  rw [hs] at hl hmx hnm hnu hma hne ⊢
  clear hs
  have hsz : (⟨s.toArray⟩ : ByteArray).size = s.length := by simp [ByteArray.size]
  have hlen : 0 < s.length := by omega
  have H1 : ∀ w', Hid (Calls Tryz.prog 65 #[.int .i32 (c.toNat : Nat)] w' fun e w'' => e = .returned (.bool (pL c)) ∧ w'' = w') := fun w' => isLetter_any c.toNat w'
  have H2 : ∀ w', Hid (Calls Tryz.prog 67 #[.int .i32 (c.toNat : Nat)] w' fun e w'' => e = .returned (.bool (pD c)) ∧ w'' = w') := fun w' => isDigit_any c.toNat w'
  have hw32 : wrap32 (c.toNat : Int) = c.toNat := by have := c.toNat_lt; unfold wrap32; omega
  cases hp : pL c with
  | true =>
    rw [hp] at H1
    have hrd := hnm hp
    clear hnm hnu hma
    have HR0 : ∀ w', Below w.heap.size w w' → Calls Tryz.prog 66 #[.string ⟨s.toArray⟩] w' fun e w'' => e = .returned (rdV (rdN s)) ∧ Below w'.heap.size w' w'' := fun w' hb => readName_any s hmx w' (g.keep hb).sp
    rw [hrd]
    obtain ⟨_, _, _, _, ⟨z0, rfl⟩, ⟨b1, rfl⟩, ⟨z2, rfl⟩, ⟨z5, rfl⟩, hv⟩ := rdV_eq (rdN s)
    rw [hv] at HR0 ⊢
    have HR : ∀ w', Below w.heap.size w w' → Hid (Calls Tryz.prog 66 #[.string ⟨s.toArray⟩] w' fun e w'' => e = .returned (.tuple #[.agg #[.int .i64 z0, .string b1, .int .u64 z2, .int .i64 0, .int .i64 0], .int .i64 z5]) ∧ Below w'.heap.size w' w'') := HR0
    clear HR0 hrd hv g
    go_enter Tryz.func46, Tryz.ntmps46
    go_wp2_with (first | (go_at_call 65; with_reducible refine ((H1 _).out).mono ?_; rintro e w' ⟨rfl, hw⟩; subst w') | (go_at_call 66; with_reducible refine ((HR _ (by first | exact Below.refl _ _ | exact (Below.refl _ w).alloc (Nat.le_refl _) _)).out).mono ?_; rintro e w' ⟨rfl, hb1⟩; obtain ⟨hg1, hb2⟩ := new_kept hb1; clear hb1) | (refine wpList_store_row rfl _ _ _ rfl w.heap.size #[.int .i64 z0, .string b1, .int .u64 z2, .int .i64 0, .int .i64 0] rfl rfl _ _ hg1 (by kernel_rfl) rfl (by kernel_rfl) ?_; obtain ⟨w9, hw9, hr9, k0, k1, k2, k3, k4, hb9⟩ := row5 hg1 hb2 (Nat.le_refl _) (.int .i64 z0) (.string b1) (.int .u64 z2) (.int .i64 0) (.int .i64 0); rw [hw9]; clear hw9 hg1 hb2))
    refine bodyPost_ret (by simp [results, Tryz.results46, go_sem, k0, k1, k2, k3, k4]; try rfl) rfl ?_
    exact ⟨rfl, hb9⟩
  | false =>
    rw [hp] at H1
    cases hd : pD c with
    | true =>
      rw [hd] at H2
      have hrd := hnu hp hd
      clear hnm hnu hma
      have HR0 : ∀ w', Below w.heap.size w w' → Calls Tryz.prog 68 #[.string ⟨s.toArray⟩] w' fun e w'' => e = .returned (rdV (rdD s)) ∧ Below w'.heap.size w' w'' := fun w' hb => readNumber_any s hl w' (g.keep hb)
      rw [hrd]
      obtain ⟨_, _, _, _, ⟨z0, rfl⟩, ⟨b1, rfl⟩, ⟨z2, rfl⟩, ⟨z5, rfl⟩, hv⟩ := rdV_eq (rdD s)
      rw [hv] at HR0 ⊢
      have HR : ∀ w', Below w.heap.size w w' → Hid (Calls Tryz.prog 68 #[.string ⟨s.toArray⟩] w' fun e w'' => e = .returned (.tuple #[.agg #[.int .i64 z0, .string b1, .int .u64 z2, .int .i64 0, .int .i64 0], .int .i64 z5]) ∧ Below w'.heap.size w' w'') := HR0
      clear HR0 hrd hv g
      go_enter Tryz.func46, Tryz.ntmps46
      go_wp2_with (first | (go_at_call 65; with_reducible refine ((H1 _).out).mono ?_; rintro e w' ⟨rfl, hw⟩; subst w') | (go_at_call 67; with_reducible refine ((H2 _).out).mono ?_; rintro e w' ⟨rfl, hw⟩; subst w') | (go_at_call 68; with_reducible refine ((HR _ (by first | exact Below.refl _ _ | exact (Below.refl _ w).alloc (Nat.le_refl _) _)).out).mono ?_; rintro e w' ⟨rfl, hb1⟩; obtain ⟨hg1, hb2⟩ := new_kept hb1; clear hb1) | (refine wpList_store_row rfl _ _ _ rfl w.heap.size #[.int .i64 z0, .string b1, .int .u64 z2, .int .i64 0, .int .i64 0] rfl rfl _ _ hg1 (by kernel_rfl) rfl (by kernel_rfl) ?_; obtain ⟨w9, hw9, hr9, k0, k1, k2, k3, k4, hb9⟩ := row5 hg1 hb2 (Nat.le_refl _) (.int .i64 z0) (.string b1) (.int .u64 z2) (.int .i64 0) (.int .i64 0); rw [hw9]; clear hw9 hg1 hb2))
      refine bodyPost_ret (by simp [results, Tryz.results46, go_sem, k0, k1, k2, k3, k4]; try rfl) rfl ?_
      exact ⟨rfl, hb9⟩
    | false =>
      rw [hd] at H2
      have hrd := hma hp hd
      clear hnm hnu hma
      have HR0 : ∀ w', Below w.heap.size w w' → Calls Tryz.prog 69 #[.string ⟨s.toArray⟩] w' fun e w'' => e = .returned (rdV (rdM s)) ∧ Below w'.heap.size w' w'' := fun w' hb => readMark_any s hmx hne w' (g.keep hb).sp
      rw [hrd]
      obtain ⟨_, _, _, _, ⟨z0, rfl⟩, ⟨b1, rfl⟩, ⟨z2, rfl⟩, ⟨z5, rfl⟩, hv⟩ := rdV_eq (rdM s)
      rw [hv] at HR0 ⊢
      have HR : ∀ w', Below w.heap.size w w' → Hid (Calls Tryz.prog 69 #[.string ⟨s.toArray⟩] w' fun e w'' => e = .returned (.tuple #[.agg #[.int .i64 z0, .string b1, .int .u64 z2, .int .i64 0, .int .i64 0], .int .i64 z5]) ∧ Below w'.heap.size w' w'') := HR0
      clear HR0 hrd hv g
      go_enter Tryz.func46, Tryz.ntmps46
      go_wp2_with (first | (go_at_call 65; with_reducible refine ((H1 _).out).mono ?_; rintro e w' ⟨rfl, hw⟩; subst w') | (go_at_call 67; with_reducible refine ((H2 _).out).mono ?_; rintro e w' ⟨rfl, hw⟩; subst w') | (go_at_call 69; with_reducible refine ((HR _ (by first | exact Below.refl _ _ | exact (Below.refl _ w).alloc (Nat.le_refl _) _)).out).mono ?_; rintro e w' ⟨rfl, hb1⟩; obtain ⟨hg1, hb2⟩ := new_kept hb1; clear hb1) | (refine wpList_store_row rfl _ _ _ rfl w.heap.size #[.int .i64 z0, .string b1, .int .u64 z2, .int .i64 0, .int .i64 0] rfl rfl _ _ hg1 (by kernel_rfl) rfl (by kernel_rfl) ?_; obtain ⟨w9, hw9, hr9, k0, k1, k2, k3, k4, hb9⟩ := row5 hg1 hb2 (Nat.le_refl _) (.int .i64 z0) (.string b1) (.int .u64 z2) (.int .i64 0) (.int .i64 0); rw [hw9]; clear hw9 hg1 hb2))
      refine bodyPost_ret (by simp [results, Tryz.results46, go_sem, k0, k1, k2, k3, k4]; try rfl) rfl ?_
      exact ⟨rfl, hb9⟩

end Go.Proofs.YtmekcccmnkgodaaGreatDoor
namespace Go.Proofs.YtmekcccmnkgodaaGreatDoor
open Go.RowKit

/-- what a round leaves as it lay: whatever lies below n0, and whatever the iterator has laid from a on -/
def Kept (n0 a : Nat) (W W' : World) : Prop := W.heap.size ≤ W'.heap.size ∧ ∀ k, (k < n0 ∨ a ≤ k) → k < W.heap.size → W'.heap[k]? = W.heap[k]?
theorem Kept.refl (n0 a : Nat) (W : World) : Kept n0 a W W := ⟨Nat.le_refl _, fun _ _ _ => rfl⟩
theorem Kept.trans {n0 a : Nat} {A B C : World} (h : Kept n0 a A B) (k : Kept n0 a B C) : Kept n0 a A C :=
  ⟨Nat.le_trans h.1 k.1, fun j hj hl => (k.2 j hj (Nat.lt_of_lt_of_le hl h.1)).trans (h.2 j hj hl)⟩
theorem Kept.of_grown {n0 a : Nat} {A B : World} {row : Option Nat} (h : A.grownBy B row) (hr : ∀ r, row = some r → n0 ≤ r ∧ r < a) : Kept n0 a A B :=
  ⟨h.size, fun k hk hl => h.block k hl (fun e => by have := hr k e.symm; omega)⟩
theorem grown_of_below {A B : World} (h : Below A.heap.size A B) : A.grownBy B none := ⟨h.os, h.tape, h.output, h.size, fun k hk _ => h.block k hk⟩

/-- AN ITERATOR THAT TELLS THE ROUND WHAT IT HANDS OVER: at its i-th call of yield the values stand to the world as It says; between two rounds it lays new blocks alone. tot calls in all, if no round says 'no more'. -/
def Gives (F : Fence) (n : Nat) (P : Program) (g : Nat) (lb : Array Value) (It : Nat → Array Value → World → Prop) (tot n0 : Nat) (W : World) : Prop :=
  ∀ (l : Nat) (J Jx : Nat → World → Prop),
    (∀ i vs W0 W1, J i W0 → Below W0.heap.size W0 W1 → It i vs W1 → YieldAt F (n - 1) P l vs W1 fun e W' =>
      (e = .returned (.bool true) ∧ J (i + 1) W' ∧ Kept n0 W0.heap.size W1 W') ∨ (e = .returned (.bool false) ∧ Jx (i + 1) W')) →
    J 0 W →
    CallsIn F n P g (#[.func (.yield l) #[] #[]] ++ lb) W fun e W' => (∃ v, e = .returned v) ∧ ((∃ W0, J tot W0 ∧ Below W0.heap.size W0 W') ∨ ∃ i W0, i < tot ∧ Jx (i + 1) W0 ∧ Below W0.heap.size W0 W')

/-- how a round's body may be left -/
def rpost (B n0 a : Nat) (I : Nat → Nat → World → Prop) (Ix : Code → Nat → World → Prop) (i : Nat) (W : World) : Exit → Act → World → Prop
  | .normal, _, W' => KeepsFrom B W W' ∧ Kept n0 a W W' ∧ I i W'.heap.size W'
  | .ret, _, W' => KeepsFrom B W W' ∧ Ix .ret i W'
  | .exit id, _, W' => KeepsFrom B W W' ∧ Ix (.exit id) i W'
  | .goto t, _, W' => KeepsFrom B W W' ∧ Ix (.goto t) i W'
  | .panic _, _, _ => False
  | .outgrown, _, _ => False

theorem wpIn_range_gives {F : Fence} {n : Nat} {P : Program} {g : Operand} {ps : Array Tmp} {assign body : Code} {Q : Exit → Act → World → Prop} {a : Act} {w : World}
    (hro : F.round = none) (h1 : 1 ≤ n) {gf : Nat} {lb : Array Value} (hg : a.eval g = .func (.func gf) #[] lb) (hFg : F.fn gf) (eg : ∀ args w, (callFunc gf args).run P w = .ok (.enter gf args) w)
    {It : Nat → Array Value → World → Prop} {tot n0 : Nat} (hseq : ∀ W1, Below w.heap.size w W1 → Gives F (n - 1) P gf lb It tot n0 W1) (hn0 : n0 ≤ w.heap.size)
    (hps : ∀ i vs W, It i vs W → vs.size = ps.size)
    (I : Nat → Nat → World → Prop) (Ix : Code → Nat → World → Prop) (hI : ∀ b, OwnFrom w.heap.size (fun i W => I i b W)) (hIx : ∀ c, OwnFrom w.heap.size (Ix c)) (h0 : I 0 w.heap.size w)
    (hIm : ∀ i b b' W, b ≤ b' → I i b W → I i b' W)
    (Ax : Nat → Nat → Array Value → Act → World → Prop) (hAx : ∀ i b vs a', OwnFrom w.heap.size (fun (_ : Unit) W => Ax i b vs a' W))
    (hassign : ∀ (l i b : Nat) (vs : Array Value) (W : World) (K : Act → World → Prop), w.heap.size + 2 ≤ b → b ≤ W.heap.size → I i b W → It i vs W → (∀ a' W', KeepsFrom w.heap.size W W' → Kept n0 b W W' → Ax i b vs a' W' → K a' W') →
      assign.wpIn (F.inRound l) (n - 1 - 1) P (Exit.then K (fun _ _ _ => False)) { tmps := (ps.zip vs).foldl (fun t (p, v) => t.setIfInBounds p v) a.tmps, defers := [] } W)
    (hbody : ∀ (l i b : Nat) (vs : Array Value) (a' : Act) (W : World), w.heap.size + 2 ≤ b → b ≤ W.heap.size → Ax i b vs a' W → body.wpIn (F.inRound l) (n - 1 - 1) P (rpost w.heap.size n0 b I Ix (i + 1) W) a' W)
    (hdone : ∀ (D b : Nat) (W : World), w.heap.size ≤ D → I tot b W → W.heap[D]? = some (.deferred (some [])) → Q .normal { a with defers := { target := .collected D, args := #[] } :: a.defers } W)
    (hstop : ∀ (D : Nat) (c : Code) (i : Nat) (W : World), w.heap.size ≤ D → i < tot → Ix c (i + 1) W → W.heap[D]? = some (.deferred (some [])) → c.wpIn F n P Q { a with defers := { target := .collected D, args := #[] } :: a.defers } W) :
    (Code.rangeFunc g ps assign body).wpIn F n P Q a w := by
  refine wpIn_rangeFunc ?_
  intro fn hfn
  rw [hro]
  let rec' : LoopState → Option Code → Loop := fun st pe => { state := st, pending := pe, fn, tmps := a.tmps, params := ps, assign, body, defers := w.heap.size }
  obtain ⟨rc, hrc⟩ : ∃ rc, rc = rec' := ⟨_, rfl⟩
  obtain ⟨L, hL⟩ : ∃ L, w.heap.size + 1 = L := ⟨_, rfl⟩
  obtain ⟨D, hD⟩ : ∃ D, w.heap.size = D := ⟨_, rfl⟩
  obtain ⟨W1, hW1⟩ : ∃ W1, (w.alloc (.deferred (some []))).alloc (.loop (rc .ready none)) = W1 := ⟨_, rfl⟩
  have hsz : W1.heap.size = w.heap.size + 2 := by rw [← hW1]; simp
  have hL1 : W1.heap[L]? = some (.loop (rc .ready none)) := by
    rw [← hW1, ← hL]
    have := World.alloc_heap_new (w.alloc (.deferred (some []))) (.loop (rc .ready none))
    rwa [World.size_alloc] at this
  have hD1 : W1.heap[D]? = some (.deferred (some [])) := by
    rw [← hW1, ← hD]
    exact (Below.heap_alloc _ _ _ (by simp)).trans (World.alloc_heap_new w _)
  have hI1 : I 0 W1.heap.size W1 := hIm 0 w.heap.size _ _ (by omega) (by rw [← hW1]; exact (hI _).alloc _ ((hI _).alloc _ h0))
  have hb1 : Below w.heap.size w W1 := by
    rw [← hW1]
    exact ((Below.refl _ w).alloc (Nat.le_refl _) _).alloc (by simp) _
  refine ⟨L, [{ target := .collected D, args := #[] }], W1, { target := .fn (.func gf) lb, args := #[.func (.yield L) #[] #[]] }, W1, gf, #[.func (.yield L) #[] #[]] ++ lb, W1, ?_, ?_, ?_, ?_, fun _ => h1, ?_⟩
  · rw [← hW1, hrc, ← hL, ← hD]; exact run_enterLoop_outer _ _ _ _ _
  · simp only [resolve, hg]
    simp [go_sem]
  · intro f' hf'
    simp [Target.leads] at hf'
    subst hf'
    exact hFg
  · simp [invoke, go_sem, eg]
  refine (hseq W1 hb1 L (fun i W => I i W.heap.size W ∧ W.heap[L]? = some (.loop (rc .ready none)) ∧ W.heap[D]? = some (.deferred (some [])) ∧ w.heap.size + 2 ≤ W.heap.size)
    (fun i W => ∃ c, Ix c i W ∧ W.heap[L]? = some (.loop (rc .done (some c))) ∧ W.heap[D]? = some (.deferred (some []))) ?_ ⟨hI1, hL1, hD1, by omega⟩).mono ?_
  · -- a round
    rintro i vs W0 W ⟨hi0, hl0, hk0, hz0⟩ hbel hit
    have hL0 : L < W0.heap.size := (Array.getElem?_eq_some_iff.1 hl0).1
    have hD0 : D < W0.heap.size := (Array.getElem?_eq_some_iff.1 hk0).1
    have hl := (hbel.block L hL0).trans hl0
    have hk := (hbel.block D hD0).trans hk0
    have hi : I i W0.heap.size W := hI _ i W0 W none hi0 (grown_of_below hbel) (fun r e => by cases e)
    obtain ⟨b, hb⟩ : ∃ b, W0.heap.size = b := ⟨_, rfl⟩
    rw [hb] at hi hz0 hL0 ⊢
    have hbW : b ≤ W.heap.size := by rw [← hb]; exact hbel.size
    have hlt : L < W.heap.size := (Array.getElem?_eq_some_iff.1 hl).1
    have hy := run_yield (P := P) (args := vs) hl (by rw [hrc]; exact hps _ _ _ hit)
    rw [hrc] at hy
    refine ⟨fn, _, assign, body, hy, roundIn_of_wpIn hfn (hassign _ i b vs W _ hz0 hbW hi hit ?_)⟩
    intro a' Wa hkf hkp hax
    have hla := hkf.same _ _ (by omega) hl rfl
    have hka := hkf.same _ _ (by omega) hk rfl
    have hlta : L < Wa.heap.size := (Array.getElem?_eq_some_iff.1 hla).1
    refine ⟨_, run_beginRound hla (by rw [hrc]), ?_⟩
    obtain ⟨Wb, hWb⟩ : ∃ Wb, Wa.putObj L (.loop { rc .ready none with state := .busy }) = Wb := ⟨_, rfl⟩
    rw [hWb]
    have hlb : Wb.heap[L]? = some (.loop { rc .ready none with state := .busy }) := by rw [← hWb]; exact World.putObj_heap_same hlta
    have hkb : Wb.heap[D]? = some (.deferred (some [])) := by rw [← hWb]; exact (World.putObj_heap_other (by omega)).trans hka
    have hput : ∀ (X : World) (o : Obj), Kept n0 b X (X.putObj L o) := fun X o => Kept.of_grown (grownBy_putObj' X L o) (fun r e => by cases e; omega)
    have hKb : Kept n0 b Wa Wb := by rw [← hWb]; exact hput _ _
    have haxb : Ax i b vs a' Wb := by rw [← hWb]; exact (hAx i b vs a').putObj (s := ()) _ hax (by omega) hla rfl
    refine wpIn_mono (hbody _ i b vs a' Wb hz0 (by have := hkp.1; have := hKb.1; omega) haxb) ?_
    have fin : ∀ (j : Option Code) (W3 : World), KeepsFrom w.heap.size Wb W3 → ∃ W4, (Instr.endRound L j).run P W3 = .ok (.bool j.isNone) W4 ∧ W4 = W3.putObj L (.loop (rc (if j.isNone then .ready else .done) j)) ∧
        W3.heap[L]? = some (.loop { rc .ready none with state := .busy }) ∧ W4.heap[L]? = some (.loop (rc (if j.isNone then .ready else .done) j)) ∧ W4.heap[D]? = some (.deferred (some [])) := by
      intro j W3 hk3
      have hl3 := hk3.same _ _ (by omega) hlb rfl
      have he := run_endRound (P := P) j hl3
      refine ⟨_, ?_, rfl, hl3, World.putObj_heap_same (Array.getElem?_eq_some_iff.1 hl3).1, (World.putObj_heap_other (by omega)).trans (hk3.same _ _ (by omega) hkb rfl)⟩
      rw [hrc] at he ⊢
      exact he
    rintro e a3 W3 hp
    cases e with
    | normal =>
      obtain ⟨hk3, hkp3, hi3⟩ := hp
      obtain ⟨W4, hr, h4, hl3, hl4, hk4⟩ := fin none W3 hk3
      have hsz4 : W4.heap.size = W3.heap.size := by rw [h4]; simp
      refine ⟨_, _, hr, .inl ⟨rfl, ⟨?_, hl4, hk4, ?_⟩, ?_⟩⟩
      · rw [hsz4, h4]; exact (hI _).putObj _ hi3 (by omega) hl3 rfl
      · have := hkp.1; have := hKb.1; have := hkp3.1; omega
      · rw [h4]; exact ((hkp.trans hKb).trans hkp3).trans (hput _ _)
    | ret =>
      obtain ⟨hk3, hi3⟩ := hp
      obtain ⟨W4, hr, h4, hl3, hl4, hk4⟩ := fin (some .ret) W3 hk3
      exact ⟨_, _, hr, .inr ⟨rfl, .ret, by rw [h4]; exact (hIx _).putObj _ hi3 (by omega) hl3 rfl, hl4, hk4⟩⟩
    | exit id =>
      obtain ⟨hk3, hi3⟩ := hp
      obtain ⟨W4, hr, h4, hl3, hl4, hk4⟩ := fin (some (.exit id)) W3 hk3
      exact ⟨_, _, hr, .inr ⟨rfl, .exit id, by rw [h4]; exact (hIx _).putObj _ hi3 (by omega) hl3 rfl, hl4, hk4⟩⟩
    | goto t =>
      obtain ⟨hk3, hi3⟩ := hp
      obtain ⟨W4, hr, h4, hl3, hl4, hk4⟩ := fin (some (.goto t)) W3 hk3
      exact ⟨_, _, hr, .inr ⟨rfl, .goto t, by rw [h4]; exact (hIx _).putObj _ hi3 (by omega) hl3 rfl, hl4, hk4⟩⟩
    | panic ch => exact hp.elim
    | outgrown => exact hp.elim
  · -- behind the iterator
    rintro e W2 ⟨⟨v, rfl⟩, (⟨W0, ⟨hi0, hl0, hk0, _⟩, hbel⟩ | ⟨i, W0, hit, ⟨c, hi0, hl0, hk0⟩, hbel⟩)⟩
    · have hl := (hbel.block L (Array.getElem?_eq_some_iff.1 hl0).1).trans hl0
      have hk := (hbel.block D (Array.getElem?_eq_some_iff.1 hk0).1).trans hk0
      have hi : I tot W0.heap.size W2 := hI _ tot W0 W2 none hi0 (grown_of_below hbel) (fun r e => by cases e)
      have he := run_endLoop (P := P) hl (by rw [hrc]; simp [rec'])
      exact ⟨none, _, by rw [hrc] at he; exact he, hdone D _ _ (by omega) ((hI _).putObj _ hi (by omega) hl rfl) ((World.putObj_heap_other (by omega)).trans hk)⟩
    · have hl := (hbel.block L (Array.getElem?_eq_some_iff.1 hl0).1).trans hl0
      have hk := (hbel.block D (Array.getElem?_eq_some_iff.1 hk0).1).trans hk0
      have hi : Ix c (i + 1) W2 := hIx c (i + 1) W0 W2 none hi0 (grown_of_below hbel) (fun r e => by cases e)
      have he := run_endLoop (P := P) hl (by rw [hrc]; simp [rec'])
      exact ⟨some c, _, by rw [hrc] at he; exact he, hstop D c i _ (by omega) hit ((hIx c).putObj _ hi (by omega) hl rfl) ((World.putObj_heap_other (by omega)).trans hk)⟩

/-! ### a token's block in a fenced walk -/
theorem semAt_plain' (F : Fence) (ρ : Operand → Value) (o : Oper) (h : ∀ c, o.op ≠ .defer c) : Oper.semAt F.round ρ o = execOp ρ o := by
  cases hr : F.round with
  | none => exact Oper.semAt_none _ _
  | some l => exact Oper.semAt_some l _ _ h

theorem wpListIn_store_row {F : Fence} {n : Nat} {P : Program} {ops : Array Oper} {rest : List Oper} {o : Oper} {a : Act} {w : World} {Q : Exit → Act → World → Prop} (hgd : o.guard = none) (ty : TypeId) (x y : Operand) (ho : o.op = .store ty x y)
    (g : Nat) (cells : Array Value) (hx : a.eval x = .pointer (some ⟨g, 0, none⟩)) (hy : a.eval y = .agg cells)
    (t : TypeId) (old : Array Value) (hg : w.heap[g]? = some (.cells old t (0, 0))) (hi : (P.info? ty).map (·.size) = some cells.size)
    (hold : old.size = cells.size) (h1 : cells.all (·.oneCell') = true)
    (h : wpListIn F n P ops Q rest (a.put o.dst undef) (w.setRow g cells)) : wpListIn F n P ops Q (o :: rest) a w := by
  refine wpListIn_plain hgd fun K hK => ?_
  unfold Oper.wpIn
  refine ⟨?_, ?_⟩
  · simp [Oper.about, ho]
  · rw [semAt_plain' F _ _ (by rw [ho]; intro c hc; cases hc)]
    unfold execOp
    simp only [ho, hx, hy, Instr.storeAt, Instr.sureAddr, Sem.run_bind, Sem.run_pure, Result.andThen_ok, run_storeVar_row w g t ty old cells hg hi hold h1]
    exact hK _ _ h


/-! ### a scope (a body that bears a label) in a fenced walk: no goto in it -/
section
variable {F : Fence} {n : Nat} {P : Program} {b : Frame} {a : Act} {k : List Item} {cs : List Frame} {w : World} {Q : Exit → Act → World → Prop}
theorem scopeR_in {c : Code} : step P (lone (b.atR a (.code (.scope c) :: k)) cs w) = .next (lone (b.atR a (.code c :: .inScope c :: k)) cs w) :=
  step_lone_go (by simp [stepG, stepG.exec, Frame.atR])
theorem scopeR_out {c : Code} : step P (lone (b.atR a (.inScope c :: k)) cs w) = .next (lone (b.atR a k) cs w) :=
  step_lone_go (by simp [stepG, stepG.exec, Frame.atR])
theorem wpIn_scope {c : Code} (h : c.wpIn F n P (Exit.noGoto Q) a w) : (Code.scope c).wpIn F n P Q a w := by
  intro b k cs hro hb hr
  have h0 : (lone (b.atR a (.code (.scope c) :: k)) cs w).fenced P F := fenced_calm hb hr rfl
  obtain ⟨e, a₁, w₁, hq, harr⟩ := h b (.inScope c :: k) cs hro hb hr
  have hx : ∀ id, exitTo id (.inScope c :: k) = exitTo id k := fun id => by simp [exitTo]
  cases e with
  | normal => exact ⟨.normal, a₁, w₁, hq, .head h0 scopeR_in (StepsIn.trans harr (.one (fenced_calm hb hr rfl) scopeR_out))⟩
  | exit id =>
    refine ⟨.exit id, a₁, w₁, hq, fun k' hk => .head h0 scopeR_in (harr.1 k' (by rw [hx]; exact hk)), fun hr' hk => ?_⟩
    obtain ⟨k₁, h1, h2⟩ := harr.2 hr' (by rw [hx]; exact hk)
    exact ⟨k₁, h1, .head h0 scopeR_in h2⟩
  | goto l => exact hq.elim
  | ret => exact ⟨_, a₁, w₁, hq, .of_steps (.one h0 scopeR_in) harr⟩
  | panic ch => exact ⟨_, a₁, w₁, hq, .of_steps (.one h0 scopeR_in) harr⟩
  | outgrown => exact ⟨_, a₁, w₁, hq, .of_steps (.one h0 scopeR_in) harr⟩
end

end Go.Proofs.YtmekcccmnkgodaaGreatDoor
