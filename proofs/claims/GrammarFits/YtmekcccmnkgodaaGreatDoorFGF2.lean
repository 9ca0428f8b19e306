import Derived.Test.YtmekcccmnkgodaaGreatDoorFGB6
import Derived.Test.YtmekcccmnkgodaaGreatDoorFGB0
import Derived.Test.YtmekcccmnkgodaaGreatDoorFGQ1
namespace Go.Proofs.YtmekcccmnkgodaaGreatDoor
open Go.ChangeShapes Go.WideShapes Go.ChangeAt Go.RowKit
set_option linter.unusedVariables false
set_option linter.unusedSimpArgs false
set_option maxRecDepth 100000
theorem neq_seen_same (k c a b : Int) (W : World) : (binOp .neq 33 (.agg #[.int .i64 k, .int .i64 c, .int .i64 a, .int .i64 b, .int .u64 0, .int .i64 0, .int .u64 0]) (.agg #[.int .i64 k, .int .i64 c, .int .i64 a, .int .i64 b, .int .u64 0, .int .i64 0, .int .u64 0])).run Tryz.prog W = .ok (.bool false) W := by
  have e1 : (k == k) = true := by simp
  have e2 : (c == c) = true := by simp
  have e3 : (a == a) = true := by simp
  have e4 : (b == b) = true := by simp
  go_simp
theorem eql_seen_same (k c a b : Int) (W : World) : (binOp .eql 33 (.agg #[.int .i64 k, .int .i64 c, .int .i64 a, .int .i64 b, .int .u64 0, .int .i64 0, .int .u64 0]) (.agg #[.int .i64 k, .int .i64 c, .int .i64 a, .int .i64 b, .int .u64 0, .int .i64 0, .int .u64 0])).run Tryz.prog W = .ok (.bool true) W := by
  have e1 : (k == k) = true := by simp
  have e2 : (c == c) = true := by simp
  have e3 : (a == a) = true := by simp
  have e4 : (b == b) = true := by simp
  go_simp
def fKnown : Bs := [99, 111, 110, 115, 116, 32, 65, 32, 61, 32, 61, 32, 49]
def fToks : List Tk × Option Er := scanF 40 fKnown 1 1 0
theorem f_scan : scanT fKnown = fToks := by
  unfold scanT fToks
  rw [if_neg (by decide), scanF_eq 40 fKnown 1 1 0 (by decide)]
theorem f_none : fToks.2 = none := by decide +kernel
theorem f_len : fToks.1.length = 5 := by decide +kernel
def isBad (R : Pr (List Nat)) (c l o : Int) : Bool := match R with
  | .bad e => decide (e.code = c ∧ e.line = l ∧ e.col = o)
  | _ => false
theorem f_bad : isBad (P (fun i => fToks.1.getD i nT) 5 200 .scene ⟨0, 0, []⟩) 40 1 11 = true := by decide +kernel
theorem isBad_of {R : Pr (List Nat)} {c l o : Int} (h : isBad R c l o = true) : Res.of R = .er c l o := by
  cases R with
  | out => cases h
  | ok s v => cases h
  | bad e =>
    obtain ⟨rfl, rfl, rfl⟩ := of_decide_eq_true h
    rfl
theorem f_known : prsR fKnown 199 = .er 40 1 11 := by
  unfold prsR
  rw [f_scan, f_none]
  dsimp only
  unfold bldR Bld
  rw [f_len, if_neg (by omega)]
  exact isBad_of f_bad
theorem f_parse (w : World) (g : Gr w) (he : Et w) : Calls Tryz.prog 7 #[.string ⟨#[99, 111, 110, 115, 116, 32, 65, 32, 61, 32, 61, 32, 49]⟩] w fun e w' => ∃ tp tm tc ev, e = .returned (.tuple #[.agg #[.slice tp tm tc], ev]) ∧ EvAt w' ev (.er 40 1 11) ∧ Below w.heap.size w w' := by
  have h := parse_any fKnown (by unfold maxLen; decide) 199 (fun ts h => by rw [f_scan] at h; have e : fToks.1 = ts := congrArg Prod.fst h; have e2 := f_len; rw [e] at e2; omega) w g he
  rw [f_known] at h
  exact h.mono fun e w' h => h.ev
end Go.Proofs.YtmekcccmnkgodaaGreatDoor
namespace Go.Proofs.YtmekcccmnkgodaaGreatDoor
open Go.ChangeShapes Go.WideShapes Go.ChangeAt Go.RowKit
set_option linter.unusedVariables false
set_option linter.unusedSimpArgs false
/-! ### what goes wrong goes wrong at the first token that does not fit -/
def FineR (X : Nat → Tk) (m : Nat) (R : Pr (List Nat)) : Prop := (∃ s v, R = .ok s v) ∨ (R = .bad (endE X m) ∧ 0 < m)
theorem bld_zero (X : Nat → Tk) (F : Nat) : ∃ s v, Bld X 0 (F + 1) = .ok s v := ⟨_, _, rfl⟩
theorem fit_one {X : Nat → Tk} {n m F : Nat} (hn : n ≤ 16384) (hm : m ≤ n) (hF : 20 * n + 10 ≤ F) (hno : ∀ e, Bld X n F = .bad e → m ≤ e.idx ∧ (m = e.idx → e ≠ endE X m)) : FineR X m (Bld X m F) := by
  obtain ⟨F, rfl⟩ : ∃ G, F = G + 1 := ⟨F - 1, by omega⟩
  have hc := cutP X n m hm (F + 1 + 1) .scene ⟨0, 0, []⟩ trivial (Nat.zero_le _)
  have hd := cdP X m (F + 1 + 1) .scene ⟨0, 0, []⟩ (Nat.zero_le _)
  have o1 := bld_out X m (F + 1) (by omega)
  by_cases h0 : m = 0
  · subst h0
    exact .inl (bld_zero X F)
  · unfold Bld at o1 hno ⊢
    rw [if_neg (by omega)] at o1 hno ⊢
    rcases hc with hc | ⟨h1, h2⟩
    · rw [hc] at hd ⊢
      cases e1 : P X n (F + 1 + 1) .scene ⟨0, 0, []⟩ with
      | out => rw [hc] at o1; exact absurd e1 o1
      | ok s v => exact .inl ⟨s, v, rfl⟩
      | bad e =>
        obtain ⟨h3, h4⟩ := hno e e1
        rw [e1] at hd
        rcases hd with rfl | ⟨h5, _⟩
        · exact absurd rfl (h4 rfl)
        · omega
    · cases e1 : P X m (F + 1 + 1) .scene ⟨0, 0, []⟩ with
      | out => exact absurd e1 o1
      | ok s v => exact .inl ⟨s, v, rfl⟩
      | bad e =>
        rw [e1] at h1
        exact .inr ⟨by rw [show e = endE X m from h1], by omega⟩
/-- the tokens as far as the one that does not fit -/
theorem fit_at {X : Nat → Tk} {n F : Nat} (hn : n ≤ 16384) (hF : 20 * n + 10 ≤ F) {e : Pe} (h : Bld X n F = .bad e) (he : e.idx < n) : Bld X (e.idx + 1) F = .bad e := by
  have hc := cutP X n (e.idx + 1) he (F + 1) .scene ⟨0, 0, []⟩ trivial (Nat.zero_le _)
  unfold Bld at h ⊢
  rw [if_neg (by omega)] at h ⊢
  rcases hc with hc | ⟨h1, h2⟩
  · rw [hc]; exact h
  · rw [h] at h2
    exact absurd (show e.idx + 1 ≤ e.idx from h2) (by omega)
/-- what goes wrong -/
theorem fit_codes {X : Nat → Tk} {n F : Nat} (hn : n ≤ 16384) {e : Pe} (h : Bld X n F = .bad e) : CdE X n e := by
  have hd := cdP X n (F + 1) .scene ⟨0, 0, []⟩ (Nat.zero_le _)
  unfold Bld at h
  rw [if_neg (by omega)] at h
  rw [h] at hd
  exact hd
end Go.Proofs.YtmekcccmnkgodaaGreatDoor
namespace Go.Proofs.YtmekcccmnkgodaaGreatDoor
open Go.ChangeShapes Go.WideShapes Go.ChangeAt Go.RowKit
set_option linter.unusedVariables false
set_option linter.unusedSimpArgs false
theorem TX.le {W : World} {p : Option Addr} {n m : Nat} {X : Nat → Tk} (h : TX W p n X) (hm : m ≤ n) : TX W p m X := by
  rcases h with h | ⟨b, o, e, h1, h2⟩
  · exact .inl (by omega)
  · exact .inr ⟨b, o, e, h1, fun i r hi hr => h2 i r (by omega) hr⟩
/-- the error of a number of tokens -/
def RM (X : Nat → Tk) (m : Nat) : Res := bldR X m 400000
theorem rm_er {X : Nat → Tk} {m : Nat} {e : Pe} (h : Bld X m 400000 = .bad e) : RM X m = .er e.code e.line e.col := by unfold RM bldR; rw [h]; rfl
theorem rm_tr {X : Nat → Tk} {m : Nat} {s : St} {v : List Nat} (h : Bld X m 400000 = .ok s v) : RM X m = .tr (trOf s v) := by unfold RM bldR; rw [h]; rfl
/-- what is right of what goes wrong first -/
structure FitA (X : Nat → Tk) (Y : Nat → Res) (n a : Nat) : Prop where
  le : a ≤ n
  how : (a = n ∧ seeC (Y n) ≠ 40 ∧ seeC (Y n) ≠ 42) ∨ (a < n ∧ (seeC (Y n) = 40 ∨ seeC (Y n) = 42) ∧ Y (a + 1) = Y n ∧ ∀ i, i < n → ((X i).line = seeL (Y n) ∧ (X i).col = seeO (Y n) ↔ i = a))
  fine : ∀ m, m ≤ a → m < n → (seeK (Y m) = 0 ∧ seeC (Y m) = 0 ∨ (seeK (Y m) = 2 ∧ seeC (Y m) = 41 ∧ 0 < m ∧ seeL (Y m) = (X (m - 1)).line ∧ seeO (Y m) = wrap64 ((X (m - 1)).col + ((X (m - 1)).text.length : Int))))
theorem fine_of {X : Nat → Tk} {m : Nat} (h : FineR X m (Bld X m 400000)) : seeK (RM X m) = 0 ∧ seeC (RM X m) = 0 ∨ (seeK (RM X m) = 2 ∧ seeC (RM X m) = 41 ∧ 0 < m ∧ seeL (RM X m) = (X (m - 1)).line ∧ seeO (RM X m) = wrap64 ((X (m - 1)).col + ((X (m - 1)).text.length : Int))) := by
  rcases h with ⟨s, v, h⟩ | ⟨h, h0⟩
  · rw [rm_tr h]; exact .inl ⟨rfl, rfl⟩
  · rw [rm_er h]; exact .inr ⟨rfl, rfl, h0, rfl, rfl⟩
theorem fits_pure {X : Nat → Tk} {n : Nat} (hn : n ≤ 16384) (hp : ∀ i j, i < n → j < n → (X i).line = (X j).line → (X i).col = (X j).col → i = j) : ∃ a, FitA X (RM X) n a := by
  have hF : ∀ m, m ≤ n → 20 * m + 10 ≤ 400000 := fun m h => by omega
  cases hb : Bld X n 400000 with
  | out => exact absurd hb (bld_out X n 400000 (hF n (Nat.le_refl _)))
  | ok s v =>
    refine ⟨n, Nat.le_refl _, .inl ⟨rfl, by rw [rm_tr hb]; show (0 : Int) ≠ 40; decide, by rw [rm_tr hb]; show (0 : Int) ≠ 42; decide⟩, fun m h1 h2 => fine_of (fit_one hn h1 (hF n (Nat.le_refl _)) fun e he => by rw [hb] at he; cases he)⟩
  | bad e =>
    rcases fit_codes hn hb with rfl | ⟨h1, h2, h3, h4⟩
    · refine ⟨n, Nat.le_refl _, .inl ⟨rfl, by rw [rm_er hb]; show (41 : Int) ≠ 40; decide, by rw [rm_er hb]; show (41 : Int) ≠ 42; decide⟩, fun m h1 h2 => fine_of (fit_one hn h1 (hF n (Nat.le_refl _)) fun e he => ?_)⟩
      rw [hb] at he
      injection he with he
      subst he
      exact ⟨h1, fun h => absurd (show m = n from h) (by omega)⟩
    · refine ⟨e.idx, by omega, .inr ⟨h1, by rw [rm_er hb]; exact h2, ?_, fun i hi => ?_⟩, fun m h5 h6 => fine_of (fit_one hn (by omega) (hF n (Nat.le_refl _)) fun e' he => ?_)⟩
      · rw [rm_er hb, rm_er (fit_at hn (hF n (Nat.le_refl _)) hb h1)]
      · rw [rm_er hb]
        refine ⟨fun ⟨q1, q2⟩ => hp i e.idx hi h1 (q1.trans h3) (q2.trans h4), ?_⟩
        rintro rfl
        exact ⟨h3.symm, h4.symm⟩
      · rw [hb] at he
        injection he with he
        subst he
        refine ⟨h5, fun _ hc => ?_⟩
        rw [hc] at h2
        rcases h2 with h2 | h2 <;> exact absurd h2 (by show ¬ ((41 : Int) = _); decide)
theorem box7z {W : World} {b : Nat} {c0 c1 c2 c3 c4 c5 c6 : Value} {t : TypeId} (h : W.heap[b]? = some (.cells #[c0, c1, c2, c3, c4, c5, c6] t (0, 0))) : (∀ z, (W.alloc z).cell? ⟨b, 0, none⟩ = some c0) ∧ (∀ z, (W.alloc z).cell? ⟨b, 1, none⟩ = some c1) ∧ (∀ z, (W.alloc z).cell? ⟨b, 2, none⟩ = some c2) ∧ (∀ z, (W.alloc z).cell? ⟨b, 3, none⟩ = some c3) ∧ (∀ z, (W.alloc z).cell? ⟨b, 4, none⟩ = some c4) ∧ (∀ z, (W.alloc z).cell? ⟨b, 5, none⟩ = some c5) ∧ ∀ z, (W.alloc z).cell? ⟨b, 6, none⟩ = some c6 := by
  have hl := (Array.getElem?_eq_some_iff.1 h).1
  have c : ∀ z, (W.alloc z).heap[b]? = some (.cells #[c0, c1, c2, c3, c4, c5, c6] t (0, 0)) := fun z => (Below.heap_alloc W z b hl).trans h
  exact ⟨fun z => (cells7 (c z)).1.1, fun z => (cells7 (c z)).1.2.1, fun z => (cells7 (c z)).1.2.2.1, fun z => (cells7 (c z)).1.2.2.2.1, fun z => (cells7 (c z)).1.2.2.2.2.1, fun z => (cells7 (c z)).1.2.2.2.2.2.1, fun z => (cells7 (c z)).1.2.2.2.2.2.2⟩
theorem w64_in (n : Int) (h : -9223372036854775808 ≤ n ∧ n ≤ 9223372036854775807) : wrap64 n = n := by unfold wrap64; omega
theorem cut_mod (cut : Int) (a : Nat) (ha : a ≤ 16384) : ∃ m : Nat, m ≤ a ∧ wrap64 ((IntKind.u64.wrap cut).tmod ((a : Int) + 1)) = (m : Int) := by
  have h0 := wrap_u64_nonneg cut
  generalize IntKind.u64.wrap cut = U at h0 ⊢
  rw [Int.tmod_eq_emod_of_nonneg h0]
  have h1 := Int.emod_nonneg U (show ((a : Int) + 1) ≠ 0 by omega)
  have h2 := Int.emod_lt_of_pos U (show (0 : Int) < (a : Int) + 1 by omega)
  rw [w64_in _ (by omega)]
  exact ⟨(U % ((a : Int) + 1)).toNat, by omega, by omega⟩
theorem TX.cells {W : World} {b oo n i : Nat} {X : Nat → Tk} (h : TX W (some ⟨b, oo, none⟩) n X) (hi : i < n) : W.cell? ⟨b, oo + i * 5, none⟩ = some (.int .i64 (X i).kind) ∧ W.cell? ⟨b, oo + i * 5 + 1, none⟩ = some (.string ⟨(X i).text.toArray⟩) ∧ W.cell? ⟨b, oo + i * 5 + 2, none⟩ = some (.int .u64 ((X i).num : Int)) ∧ W.cell? ⟨b, oo + i * 5 + 3, none⟩ = some (.int .i64 (X i).line) ∧ W.cell? ⟨b, oo + i * 5 + 4, none⟩ = some (.int .i64 (X i).col) := by
  rcases h with h | ⟨b', o', e, hl, hc⟩
  · omega
  · injection e with e
    injection e with e1 e2 _
    subst e1 e2
    exact TX.at hc hi
theorem TX.some {W : World} {p : Option Addr} {n : Nat} {X : Nat → Tk} (h : TX W p n X) (hn : 0 < n) : ∃ b oo, p = some ⟨b, oo, none⟩ := by
  rcases h with h | ⟨b', o', e, hl, hc⟩
  · omega
  · exact ⟨b', o', e⟩
end Go.Proofs.YtmekcccmnkgodaaGreatDoor
