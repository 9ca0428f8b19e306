import Derived.Test.YtagchghhpggnlaaGreatZRO2
import Derived.Test.YtagchghhpggnlaaGreatZRR1
import Derived.Test.YtagchghhpggnlaaGreatZOP5
namespace Go.Proofs.YtagchghhpggnlaaGreat
open Go.ChangeShapes Go.WideShapes Go.ChangeAt Go.RowKit
set_option linter.unusedVariables false
set_option linter.unusedSimpArgs false

/-- the keys rise -/
def Rsg (n : Nat) (X : Nat → Se) : Prop := ∀ i, i + 1 < n → klt (X i) (X (i + 1)) = true

set_option maxRecDepth 100000 in
set_option maxHeartbeats 4000000 in
theorem rising_any (p : Option Addr) (n cp : Nat) (X : Nat → Se) (hn : n ≤ 2932031007402) (w : World) (h : SIn w p n X) : Calls Tryz.prog 31 #[.slice p n cp] w fun e w' => ∃ q, e = .returned (.bool q) ∧ (q = true ↔ Rsg n X) ∧ Below w.heap.size w w' := by
  have HH : Hid (SIn w p n X) := h
  clear h
  go_enter Tryz.func31, Tryz.ntmps31
  go_wp2_with fail
  go_loopw [3] (fun x wr => ∃ i : Nat, x = .int .i64 (i : Int) ∧ 1 ≤ i ∧ i ≤ n + 1 ∧ (∀ k, k + 1 < i → k + 1 < n → klt (X k) (X (k + 1)) = true) ∧ Below w.heap.size w wr) (fun x _ => n - (intOf x).toNat)
  case atStart => exact ⟨1, rfl, Nat.le_refl _, by omega, fun k hk => absurd hk (by omega), Below.refl _ _⟩
  case round =>
    obtain ⟨i, rfl, h1, h2, hall, hbr⟩ := hrel
    by_cases hlt : i < n
    case neg =>
      have dlt : decide ((i : Int) < (n : Int)) = false := by simp; omega
      go_wp2_with fail
      go_ret
      exact ⟨true, rfl, ⟨fun _ k hk => hall k (by omega) hk, fun _ => rfl⟩, hbr⟩
    have dlt : decide ((i : Int) < (n : Int)) = true := by simp; omega
    have hm := smeas hlt
    obtain ⟨j, hj⟩ : ∃ j, j + 1 = i := ⟨i - 1, by omega⟩
    have i0 : (0 : Int) ≤ (i : Int) := by omega
    have i1 : (i : Int) < (n : Int) := by omega
    have j0 : (0 : Int) ≤ (j : Int) := by omega
    have j1 : (j : Int) < (n : Int) := by omega
    have ei : IntKind.i64.wrap ((i : Int) + 1) = (i : Int) + 1 := by rw [IntKind.wrap_i64]; omega
    have ej : IntKind.i64.wrap ((i : Int) - 1) = (j : Int) := by rw [IntKind.wrap_i64]; omega
    obtain ⟨b, o, hp, hl, b0, b1, b2, b3, b4, b5⟩ := (HH.out.below hbr).at hlt
    obtain ⟨b', o', hp', _, a0, a1, a2, a3, a4, a5⟩ := (HH.out.below hbr).at (i := j) (by omega)
    subst hp
    injection hp' with hp'
    injection hp' with g1 g2 g3
    subst g1 g2
    obtain ⟨r, hr⟩ : ∃ r, kc (X j) (X i) = r := ⟨_, rfl⟩
    have HC : ∀ w', Below wr.heap.size wr w' → Hid (Calls Tryz.prog 62 #[.agg #[.int .u64 (X j).t, .int .i64 (X j).s, .int .u64 (X j).q, .int .i64 (X j).d, .int .i64 (X j).k, .int .i64 (X j).v], .agg #[.int .u64 (X i).t, .int .i64 (X i).s, .int .u64 (X i).q, .int .i64 (X i).d, .int .i64 (X i).k, .int .i64 (X i).v]] w' fun e w9 => e = .returned (.int .i64 r) ∧ Below wr.heap.size wr w9) := fun w' hb => by
      refine (cev_any (X j) (X i) w').mono ?_
      rintro e w9 ⟨h1, h2⟩
      exact ⟨by first | (rw [h1, ← hr]; done) | (rw [h1, ← hr]; rfl), hb.trans (h2.mono hb.size)⟩
    have KK : ∀ w1, Below wr.heap.size wr w1 → Hid ((w1.cell? ⟨b, o + j * 6, none⟩ = some (.int .u64 (X j).t) ∧ w1.cell? ⟨b, o + j * 6 + 1, none⟩ = some (.int .i64 (X j).s) ∧ w1.cell? ⟨b, o + j * 6 + 2, none⟩ = some (.int .u64 (X j).q) ∧ w1.cell? ⟨b, o + j * 6 + 3, none⟩ = some (.int .i64 (X j).d) ∧ w1.cell? ⟨b, o + j * 6 + 4, none⟩ = some (.int .i64 (X j).k) ∧ w1.cell? ⟨b, o + j * 6 + 5, none⟩ = some (.int .i64 (X j).v)) ∧ w1.cell? ⟨b, o + i * 6, none⟩ = some (.int .u64 (X i).t) ∧ w1.cell? ⟨b, o + i * 6 + 1, none⟩ = some (.int .i64 (X i).s) ∧ w1.cell? ⟨b, o + i * 6 + 2, none⟩ = some (.int .u64 (X i).q) ∧ w1.cell? ⟨b, o + i * 6 + 3, none⟩ = some (.int .i64 (X i).d) ∧ w1.cell? ⟨b, o + i * 6 + 4, none⟩ = some (.int .i64 (X i).k) ∧ w1.cell? ⟨b, o + i * 6 + 5, none⟩ = some (.int .i64 (X i).v)) := fun w1 hb => ⟨⟨(cell_below (a := ⟨b, o + j * 6, none⟩) hb hl).trans a0, (cell_below (a := ⟨b, o + j * 6 + 1, none⟩) hb hl).trans a1, (cell_below (a := ⟨b, o + j * 6 + 2, none⟩) hb hl).trans a2, (cell_below (a := ⟨b, o + j * 6 + 3, none⟩) hb hl).trans a3, (cell_below (a := ⟨b, o + j * 6 + 4, none⟩) hb hl).trans a4, (cell_below (a := ⟨b, o + j * 6 + 5, none⟩) hb hl).trans a5⟩, (cell_below (a := ⟨b, o + i * 6, none⟩) hb hl).trans b0, (cell_below (a := ⟨b, o + i * 6 + 1, none⟩) hb hl).trans b1, (cell_below (a := ⟨b, o + i * 6 + 2, none⟩) hb hl).trans b2, (cell_below (a := ⟨b, o + i * 6 + 3, none⟩) hb hl).trans b3, (cell_below (a := ⟨b, o + i * 6 + 4, none⟩) hb hl).trans b4, (cell_below (a := ⟨b, o + i * 6 + 5, none⟩) hb hl).trans b5⟩
    have HR : Hid (kc (X j) (X i) = r ∧ j + 1 = i ∧ (∀ k, k + 1 < i → k + 1 < n → klt (X k) (X (k + 1)) = true) ∧ Below w.heap.size w wr) := ⟨hr, hj, hall, hbr⟩
    clear hr hj hall hbr
    by_cases hlt0 : 0 ≤ r
    case pos =>
      have dR : decide (0 ≤ r) = true := by simpa using hlt0
      go_upto_region 4 with fail
      go_region_held3 (fun w' => (w'.cell? ⟨b, o + j * 6, none⟩ = some (.int .u64 (X j).t) ∧ w'.cell? ⟨b, o + j * 6 + 1, none⟩ = some (.int .i64 (X j).s) ∧ w'.cell? ⟨b, o + j * 6 + 2, none⟩ = some (.int .u64 (X j).q) ∧ w'.cell? ⟨b, o + j * 6 + 3, none⟩ = some (.int .i64 (X j).d) ∧ w'.cell? ⟨b, o + j * 6 + 4, none⟩ = some (.int .i64 (X j).k) ∧ w'.cell? ⟨b, o + j * 6 + 5, none⟩ = some (.int .i64 (X j).v)) ∧ w'.cell? ⟨b, o + i * 6, none⟩ = some (.int .u64 (X i).t) ∧ w'.cell? ⟨b, o + i * 6 + 1, none⟩ = some (.int .i64 (X i).s) ∧ w'.cell? ⟨b, o + i * 6 + 2, none⟩ = some (.int .u64 (X i).q) ∧ w'.cell? ⟨b, o + i * 6 + 3, none⟩ = some (.int .i64 (X i).d) ∧ w'.cell? ⟨b, o + i * 6 + 4, none⟩ = some (.int .i64 (X i).k) ∧ w'.cell? ⟨b, o + i * 6 + 5, none⟩ = some (.int .i64 (X i).v)) (first | exact ⟨⟨a0, a1, a2, a3, a4, a5⟩, b0, b1, b2, b3, b4, b5⟩ | exact KP | go_keep) ((go_at_call 62; (with_reducible refine ((HC _ (Below.drew (Below.refl _ wr))).out).mono ?_); rintro e w1 ⟨rfl, hb1⟩; have KP := (KK w1 hb1).out))
      all_goals (try go_wp2_with fail)
      all_goals (
        go_ret
        refine ⟨false, rfl, ⟨fun e => (by cases e), fun hG => ?_⟩, HR.out.2.2.2.trans (hb1.mono HR.out.2.2.2.size)⟩
        have h9 := hG j (by have := HR.out.2.1; omega)
        rw [HR.out.2.1] at h9
        unfold klt at h9
        rw [HR.out.1] at h9
        have h7 := of_decide_eq_true h9
        omega)
    have dR : decide (0 ≤ r) = false := by simpa using hlt0
    go_upto_region 4 with fail
    go_region_held3 (fun w' => (w'.cell? ⟨b, o + j * 6, none⟩ = some (.int .u64 (X j).t) ∧ w'.cell? ⟨b, o + j * 6 + 1, none⟩ = some (.int .i64 (X j).s) ∧ w'.cell? ⟨b, o + j * 6 + 2, none⟩ = some (.int .u64 (X j).q) ∧ w'.cell? ⟨b, o + j * 6 + 3, none⟩ = some (.int .i64 (X j).d) ∧ w'.cell? ⟨b, o + j * 6 + 4, none⟩ = some (.int .i64 (X j).k) ∧ w'.cell? ⟨b, o + j * 6 + 5, none⟩ = some (.int .i64 (X j).v)) ∧ w'.cell? ⟨b, o + i * 6, none⟩ = some (.int .u64 (X i).t) ∧ w'.cell? ⟨b, o + i * 6 + 1, none⟩ = some (.int .i64 (X i).s) ∧ w'.cell? ⟨b, o + i * 6 + 2, none⟩ = some (.int .u64 (X i).q) ∧ w'.cell? ⟨b, o + i * 6 + 3, none⟩ = some (.int .i64 (X i).d) ∧ w'.cell? ⟨b, o + i * 6 + 4, none⟩ = some (.int .i64 (X i).k) ∧ w'.cell? ⟨b, o + i * 6 + 5, none⟩ = some (.int .i64 (X i).v)) (first | exact ⟨⟨a0, a1, a2, a3, a4, a5⟩, b0, b1, b2, b3, b4, b5⟩ | exact KP | go_keep) ((go_at_call 62; (with_reducible refine ((HC _ (Below.drew (Below.refl _ wr))).out).mono ?_); rintro e w1 ⟨rfl, hb1⟩; have KP := (KK w1 hb1).out))
    all_goals (try go_wp2_with fail)
    all_goals (
      refine ⟨⟨i + 1, rfl, by omega, by omega, fun k hk1 hk2 => ?_, HR.out.2.2.2.trans (hb1.mono HR.out.2.2.2.size)⟩, hm⟩
      by_cases e : k + 1 < i
      · exact HR.out.2.2.1 k e hk2
      · have h8 : k = j := by have := HR.out.2.1; omega
        rw [h8, HR.out.2.1]
        unfold klt
        rw [HR.out.1]
        simp
        omega)

end Go.Proofs.YtagchghhpggnlaaGreat
namespace Go.Proofs.YtagchghhpggnlaaGreat
open Go.ChangeShapes Go.WideShapes Go.ChangeAt Go.RowKit
set_option linter.unusedVariables false
set_option linter.unusedSimpArgs false

/-! ### what is pending, as a rising list -/
theorem stb_set {n : Nat} {c d : Nat → Se} (hs : Stb klt 0 n c d) (x : Se) : InX n d x ↔ InX n c x := by
  obtain ⟨f, g, hf⟩ := hs
  constructor
  · rintro ⟨i, hi, rfl⟩
    exact ⟨f i, (hf.inr i (Nat.zero_le _) hi).2, (hf.val i).symm⟩
  · rintro ⟨i, hi, rfl⟩
    refine ⟨g i, ?_, by rw [hf.val, hf.ri]⟩
    rcases Nat.lt_or_ge (g i) n with h | h
    · exact h
    · have := hf.out (g i) (by omega)
      rw [hf.ri] at this
      omega
theorem stb_inj {n : Nat} {c d : Nat → Se} (hs : Stb klt 0 n c d) (hc : Inj n c) : Inj n d := fun i j hi hj e => by
  obtain ⟨f, g, hf⟩ := hs
  rw [hf.val, hf.val] at e
  have := hc _ _ (hf.inr i (Nat.zero_le _) hi).2 (hf.inr j (Nat.zero_le _) hj).2 e
  rw [← hf.li i, this, hf.li]
structure Pnd (A : Ab) (n : Nat) (X : Nat → Se) : Prop where
  srt : Srt klt 0 n X
  set : ∀ x, A.M x ↔ InX n X x
  inj : Inj n X
theorem Pnd.hp {A : Ab} {n : Nat} {X : Nat → Se} (h : Pnd A n X) : Hp n X := fun i h0 hi => h.srt (par i) i (Nat.zero_le _) (by unfold par; omega) hi
theorem Pnd.fst {p : Pl} {d : Nat → Se} (hs : Stb klt 0 p.ns (evS p.S) d) (ht : Srt klt 0 p.ns d) : Pnd (fstA p) p.ns d := ⟨ht, fun x => (stb_set hs x).symm, fstO_inj hs⟩
theorem Pnd.least {p : Pl} {A : Ab} {n : Nat} {X : Nat → Se} (h : Pnd A n X) (ho : AOk2 p A) {e : Se} (he : Lst A.M e) : 0 < n ∧ X 0 = e := by
  have hn : 0 < n := by
    obtain ⟨i, hi, _⟩ := (h.set e).1 he.1
    omega
  exact ⟨hn, (top_least ho h.hp h.set hn).one he⟩
theorem Pnd.rsg {p : Pl} {A : Ab} {n : Nat} {X : Nat → Se} (h : Pnd A n X) (ho : AOk2 p A) : Rsg n X := fun i hi => by
  have h1 := h.srt i (i + 1) (Nat.zero_le _) (by omega) hi
  apply Classical.byContradiction
  intro hc
  have hk := ho.kd (X i) (X (i + 1)) ((h.set _).2 ⟨i, by omega, rfl⟩) ((h.set _).2 ⟨i + 1, hi, rfl⟩)
  have e1 : ¬ klt (X (i + 1)) (X i) = true := by rw [h1]; decide
  rw [klt_iff] at hc e1
  have := h.inj i (i + 1) (by omega) hi (hk (by omega) (by omega))
  omega
/-- the list behind a step -/
theorem Pnd.next {p : Pl} (hp : PlOk p) {A : Ab} {n m : Nat} {X D d : Nat → Se} {c : Nat → Se} (h : Pnd A n X) (ho : AOk2 p A) (hn : 0 < n) (hm : m = (effA p A (X 0)).on) (h1 : Stb klt 0 m (outS (effA p A (X 0))) D) (hc1 : ∀ j, j < n - 1 → c j = X (j + 1)) (hc2 : ∀ j, j < m → c (n - 1 + j) = D j) (h2 : Stb klt 0 (n - 1 + m) c d) (h3 : Srt klt 0 (n - 1 + m) d) : Pnd (nextA p A (X 0)) (n - 1 + m) d := by
  have hM0 : A.M (X 0) := (h.set _).2 ⟨0, hn, rfl⟩
  have hF := fitE hp ho hM0
  have hmm := ho.m
  have hset : ∀ x, InX (n - 1 + m) c x ↔ (A.M x ∧ x ≠ X 0) ∨ InX m (outS (effA p A (X 0))) x := fun x => by
    constructor
    · rintro ⟨j, hj, rfl⟩
      by_cases e : j < n - 1
      · left
        rw [hc1 j e]
        refine ⟨(h.set _).2 ⟨j + 1, by omega, rfl⟩, fun e9 => ?_⟩
        have := h.inj (j + 1) 0 (by omega) hn e9
        omega
      · right
        have e9 := hc2 (j - (n - 1)) (by omega)
        rw [show n - 1 + (j - (n - 1)) = j by omega] at e9
        rw [e9]
        exact (stb_set h1 _).1 ⟨j - (n - 1), by omega, rfl⟩
    · rintro (⟨hx, hne⟩ | hx)
      · obtain ⟨j, hj, rfl⟩ := (h.set x).1 hx
        have hj0 : j ≠ 0 := fun e => hne (by rw [e])
        exact ⟨j - 1, by omega, by rw [hc1 (j - 1) (by omega), show j - 1 + 1 = j by omega]⟩
      · obtain ⟨j, hj, rfl⟩ := (stb_set h1 x).2 hx
        exact ⟨n - 1 + j, by omega, hc2 j hj⟩
  have hinjD : Inj m D := stb_inj h1 fun i j hi hj e => hF.inj hmm (by omega) (by omega) e
  have hinj : Inj (n - 1 + m) c := fun i j hi hj e => by
    have cross : ∀ a b, a < n - 1 → n - 1 ≤ b → b < n - 1 + m → c a ≠ c b := fun a b ha hb1 hb2 e9 => by
      rw [hc1 a ha] at e9
      have e8 := hc2 (b - (n - 1)) (by omega)
      rw [show n - 1 + (b - (n - 1)) = b by omega] at e8
      rw [e8] at e9
      obtain ⟨k, hk, e7⟩ := (stb_set h1 (D (b - (n - 1)))).1 ⟨b - (n - 1), by omega, rfl⟩
      refine hF.fresh ho (i := k) (by omega) ?_
      rw [e7, ← e9]
      exact (h.set _).2 ⟨a + 1, by omega, rfl⟩
    by_cases ei : i < n - 1
    · by_cases ej : j < n - 1
      · rw [hc1 i ei, hc1 j ej] at e
        have := h.inj _ _ (by omega) (by omega) e
        omega
      · exact absurd e (cross i j ei (by omega) hj)
    · by_cases ej : j < n - 1
      · exact absurd e.symm (cross j i ej (by omega) hi)
      · have e1 := hc2 (i - (n - 1)) (by omega)
        have e2 := hc2 (j - (n - 1)) (by omega)
        rw [show n - 1 + (i - (n - 1)) = i by omega] at e1
        rw [show n - 1 + (j - (n - 1)) = j by omega] at e2
        rw [e1, e2] at e
        have := hinjD _ _ (by omega) (by omega) e
        omega
  refine ⟨h3, fun x => ?_, stb_inj h2 hinj⟩
  rw [stb_set h2 x, hset x, hm]
  exact Iff.rfl
theorem steps_bu {p : Pl} (hb : 0 ≤ p.bu) {n : Nat} {B : Ab} (h : StepsR p (fstA p) n B) : (n : Int) ≤ p.bu := by
  have hm0 : (fstA p).m = 0 := rfl
  cases h with
  | zero => simpa using hb
  | @more n A _ x h1 h2 =>
    obtain ⟨ho, _⟩ := h2.zero
    have hm := h1.m
    have : ¬ p.bu ≤ (A.m : Int) := fun e => ho (.inr (.inr e))
    omega
/-- the end of a run and what its result says -/
theorem EndR.last {p : Pl} {C : Ab} (h : EndR p (fstA p) C) {k cd : Int} {x : Se} (hr : ResK p C k cd x) : ∃ B, StepsR p (fstA p) C.m B ∧ C.Z = B.Z ∧ C.K = B.K ∧ C.d = B.d ∧ C.s = B.s ∧ (Idle p B → k = 1 ∧ cd = 0 ∧ x = zeroE) ∧ (¬ Idle p B → Spent p B → k = 2 ∧ cd = 0 ∧ x = zeroE) ∧ (¬ Idle p B → ¬ Spent p B → k = 3 ∧ Lst B.M x ∧ cd = (effA p B x).code ∧ cd ≠ 0) := by
  obtain ⟨n, B, y, c, h1, h2, h3⟩ := h
  have hm := h1.m
  have hm0 : (fstA p).m = 0 := rfl
  have hf := steps_f (show (fstA p).f = 0 from rfl) h1
  rcases h2 with ⟨ho, _, _, rfl⟩ | ⟨ho, z, hz, ⟨e1, e2, _, rfl⟩ | ⟨_, e9, _⟩⟩
  · refine ⟨C, by rw [show C.m = n by omega]; exact h1, rfl, rfl, rfl, rfl, fun hi => ?_, fun hi hs => ?_, fun hi hs => ?_⟩
    · obtain ⟨a, b, c⟩ := hr.one (.inr ⟨hf, rfl, .inl ⟨hi, rfl, rfl⟩⟩)
      exact ⟨a, b, c⟩
    · obtain ⟨a, b, c⟩ := hr.one (.inr ⟨hf, rfl, .inr ⟨hi, .inl ⟨hs, rfl, rfl⟩⟩⟩)
      exact ⟨a, b, c⟩
    · rcases ho with o | o | o
      · exact absurd hf o
      · exact absurd o hi
      · exact absurd o hs
  · refine ⟨B, by show StepsR p (fstA p) B.m B; rw [show B.m = n by omega]; exact h1, rfl, rfl, rfl, rfl, fun hi => absurd (.inr (.inl hi)) ho, fun hi hs => absurd (.inr (.inr hs)) ho, fun hi hs => ?_⟩
    obtain ⟨a, b, c⟩ := hr.one (.inl ⟨e1, rfl, rfl, hz⟩)
    subst c
    exact ⟨a, hz, b, by rw [b]; exact e1⟩
  · exact absurd e9 h3
end Go.Proofs.YtagchghhpggnlaaGreat
namespace Go.Proofs.YtagchghhpggnlaaGreat
open Go.ChangeShapes Go.WideShapes Go.ChangeAt Go.RowKit
set_option linter.unusedVariables false
set_option linter.unusedSimpArgs false

theorem cells6p {W : World} {b : Nat} {c0 c1 c2 c3 c4 c5 : Value} {t : TypeId} (h : W.heap[b]? = some (.cells #[c0, c1, c2, c3, c4, c5] t (0, 0))) : W.cell? ⟨b, 0, none⟩ = some c0 ∧ W.cell? ⟨b, 1, none⟩ = some c1 ∧ W.cell? ⟨b, 2, none⟩ = some c2 ∧ W.cell? ⟨b, 3, none⟩ = some c3 ∧ W.cell? ⟨b, 4, none⟩ = some c4 ∧ W.cell? ⟨b, 5, none⟩ = some c5 := by
  refine ⟨?_, ?_, ?_, ?_, ?_, ?_⟩
  all_goals (unfold World.cell?; rw [h]; rfl)
/-! ### which points fit a plan -/
def sf1 (p : Pl) (C : Nat → Sa) (j : Nat) : Prop := (C j).n = p.nw j ∧ (C j).s ≤ 4611686018427387904
def SF (p : Pl) (n : Nat) (C : Nat → Sa) : Prop := n = p.nq ∧ ∀ j, j < n → sf1 p C j
def ef1 (p : Pl) (C : Nat → Sa) (x : Se) : Prop := (0 ≤ x.d ∧ x.d < (p.nq : Int)) ∧ (0 ≤ x.k ∧ x.k < p.ki) ∧ (0 ≤ x.s ∧ x.s < (p.nq : Int)) ∧ x.q < (C x.s.toNat).s
/-- a point that fits -/
def PF (p : Pl) (o : Pn) : Prop := SF p o.n o.A ∧ Rsg o.m o.X ∧ (o.l : Int) ≤ p.bu ∧ ∀ j, j < o.m → ef1 p o.A (o.X j)
theorem SF.eqv {p : Pl} {n : Nat} {A C : Nat → Sa} (h : SaEq n A C) : SF p n C ↔ SF p n A := by
  unfold SF sf1
  constructor
  · intro ⟨h1, h2⟩
    exact ⟨h1, fun j hj => by rw [← (h j hj).1, ← (h j hj).2.2]; exact h2 j hj⟩
  · intro ⟨h1, h2⟩
    exact ⟨h1, fun j hj => by rw [(h j hj).1, (h j hj).2.2]; exact h2 j hj⟩
set_option maxRecDepth 100000 in
set_option maxHeartbeats 4000000 in
theorem statesFit_any (p : Pl) (v : PlV) (q : Option Addr) (n c : Nat) (C : Nat → Sa) (K : Nat → Nat → Int) (hn : n * 40 ≤ 140737488355328) (hnq : p.nq ≤ 64) (w : World) (h : PlAt w p v) (hs : SsAt w q n C K) :
    Calls Tryz.prog 83 #[.agg #[.int .i64 p.ki, .slice v.pp p.np v.pc, .slice v.tp p.nq v.tc, .slice v.sp p.ns v.sc, .int .u64 p.sd, .int .u64 p.lk, .int .u64 p.en, .int .i64 p.bu, .int .i64 p.fu], .slice q n c] w fun e w' => ∃ b, e = .returned (.bool b) ∧ (b = true ↔ SF p n C) ∧ Below w.heap.size w w' := by
  obtain ⟨wb, hwb⟩ : ∃ wb, w.alloc (.cells #[.int .i64 p.ki, .slice v.pp p.np v.pc, .slice v.tp p.nq v.tc, .slice v.sp p.ns v.sc, .int .u64 p.sd, .int .u64 p.lk, .int .u64 p.en, .int .i64 p.bu, .int .i64 p.fu] 27) = wb := ⟨_, rfl⟩
  obtain ⟨hb0, hbox, hsz⟩ := boxed _ _ _ hwb
  have HW : Hid (w.alloc (.cells #[.int .i64 p.ki, .slice v.pp p.np v.pc, .slice v.tp p.nq v.tc, .slice v.sp p.ns v.sc, .int .u64 p.sd, .int .u64 p.lk, .int .u64 p.en, .int .i64 p.bu, .int .i64 p.fu] 27) = wb) := hwb
  have HP : Hid (PlAt wb p v ∧ SsAt wb q n C K ∧ Below w.heap.size w wb) := ⟨h.below hb0, hs.below hb0, hb0⟩
  obtain ⟨⟨c0, c1, c2, c3⟩, c4, c5, c6, c7, c8⟩ := cells9 hbox
  rw [← hwb] at c0 c1 c2 c3 c4 c5 c6 c7 c8
  clear h hs hb0 hsz hwb
  by_cases he : n = p.nq
  case neg =>
    have g0 : ((n : Int) == (p.nq : Int)) = false := by simp; omega
    have g1 : ((n : Int) != (p.nq : Int)) = true := by simp; omega
    have g2 : (n != p.nq) = true := by simp; omega
    have g3 : (n == p.nq) = false := by simp; omega
    go_enter Tryz.func83, Tryz.ntmps83
    go_wp2_with fail
    go_ret
    rw [HW.out]
    have hX : SF p n C → False := fun hG => absurd hG.1 he
    have hY := HP.out.2.2
    first | exact ⟨false, rfl, ⟨fun e => (by cases e), fun hG => (hX hG).elim⟩, hY⟩ | exact .inl ⟨rfl, hX, hY⟩
  have g0 : ((n : Int) == (p.nq : Int)) = true := by simp; omega
  have g1 : ((n : Int) != (p.nq : Int)) = false := by simp; omega
  have g2 : (n != p.nq) = false := by simp; omega
  have g3 : (n == p.nq) = true := by simp; omega
  have HE : Hid (n = p.nq) := he
  clear he
  go_enter Tryz.func83, Tryz.ntmps83
  go_wp2_with fail
  rw [HW.out]
  clear c0 c1 c2 c3 c4 c5 c6 c7 c8
  go_loopw [15] (fun x wr => ∃ i : Nat, x = .int .i64 (i : Int) ∧ i ≤ n ∧ (∀ j, j < i → sf1 p C j) ∧ Below wb.heap.size wb wr) (fun x _ => n - (intOf x).toNat)
  case atStart => exact ⟨0, rfl, Nat.zero_le _, fun j hj => absurd hj (Nat.not_lt_zero _), Below.refl _ _⟩
  case round =>
    obtain ⟨i, rfl, hi, hall, hbr⟩ := hrel
    by_cases hlt : i < n
    case pos =>
      have dlt : decide ((i : Int) < (n : Int)) = true := by simp; omega
      have i0 : (0 : Int) ≤ (i : Int) := by omega
      have i1 : (i : Int) < (n : Int) := by omega
      have i2 : (i : Int) < (p.nq : Int) := by rw [← HE.out]; exact i1
      have ei : IntKind.i64.wrap ((i : Int) + 1) = (i : Int) + 1 := by rw [IntKind.wrap_i64]; omega
      have hme := meas hlt
      obtain hz | ⟨g, o, hqe, hl, hc, _⟩ := HP.out.2.1.below hbr
      · omega
      obtain ⟨x0, x1, x2⟩ := hc i hlt
      have hlq : i < p.nq := by rw [← HE.out]; exact hlt
      obtain hz | ⟨gt, ot, hpp, hlt', hct, _⟩ := (HP.out.1.below hbr).ts
      · omega
      obtain ⟨y0, y1⟩ := hct i hlq
      have hboxr := (hbr.block _ (lt_of_block hbox)).trans hbox
      obtain ⟨⟨_, _, d2, _⟩, _⟩ := cells9 hboxr
      have hwl := lt_of_block hboxr
      have hn1 : w.heap.size ≠ wr.heap.size := by omega
      have hn2 : gt ≠ wr.heap.size := by omega
      have hba : Below wr.heap.size wr (wr.alloc (.cells #[.slice (C i).p (C i).n (C i).c, .int .u64 (C i).d, .int .u64 (C i).s] 46)) := (Below.refl _ wr).alloc (Nat.le_refl _) _
      obtain ⟨wa, hwa⟩ : ∃ wa, wr.alloc (.cells #[.slice (C i).p (C i).n (C i).c, .int .u64 (C i).d, .int .u64 (C i).s] 46) = wa := ⟨_, rfl⟩
      have hbn : (wr.alloc (.cells #[.slice (C i).p (C i).n (C i).c, .int .u64 (C i).d, .int .u64 (C i).s] 46)).heap[wr.heap.size]? = some (.cells #[.slice (C i).p (C i).n (C i).c, .int .u64 (C i).d, .int .u64 (C i).s] 46 (0, 0)) := World.alloc_heap_new wr _
      rw [hpp] at d2
      have d2a := (cell_below (a := ⟨w.heap.size, 2, none⟩) hba hwl).trans d2
      have y1a := (cell_below (a := ⟨gt, ot + i * 2 + 1, none⟩) hba hlt').trans y1
      rw [hwa] at hba hbn d2a y1a
      obtain ⟨b0, b1, b2⟩ := cells3p hbn
      have HA : Hid ((∀ j, j < i → sf1 p C j) ∧ Below wb.heap.size wb wr ∧ Below wr.heap.size wr wa) := ⟨hall, hbr, hba⟩
      have HWA : Hid (wr.alloc (.cells #[.slice (C i).p (C i).n (C i).c, .int .u64 (C i).d, .int .u64 (C i).s] 46) = wa) := hwa
      subst hqe
      rw [hpp]
      clear hc hct hall hbr hba hboxr hpp hl hlt' hwa hbn
      by_cases h1 : (C i).n = p.nw i
      case neg =>
        have k0 : (((C i).n : Int) == (p.nw i : Int)) = false := by simp; omega
        have k1 : (((C i).n : Int) != (p.nw i : Int)) = true := by simp; omega
        have k2 : ((C i).n == p.nw i) = false := by simp; omega
        have k3 : ((C i).n != p.nw i) = true := by simp; omega
        go_upto_region 6 with fail
        rw [HWA.out]
        go_quiet (fail)
        go_wp2_with fail
        go_ret
        have hb5 := HA.out.2.1.trans (HA.out.2.2.mono HA.out.2.1.size)
        have hX : SF p n C → False := fun hG => absurd (hG.2 i hlt).1 h1
        have hY : ∀ q, Below w.heap.size w (wa.drewN q) := fun q => HP.out.2.2.trans ((hb5.trans ((below_drewNq _ _ q).mono hb5.size)).mono HP.out.2.2.size)
        first | exact ⟨false, rfl, ⟨fun e => (by cases e), fun hG => (hX hG).elim⟩, hY _⟩ | exact .inl ⟨rfl, hX, hY _⟩
      have k0 : (((C i).n : Int) == (p.nw i : Int)) = true := by simp; omega
      have k1 : (((C i).n : Int) != (p.nw i : Int)) = false := by simp; omega
      have k2 : ((C i).n == p.nw i) = true := by simp; omega
      have k3 : ((C i).n != p.nw i) = false := by simp; omega
      by_cases h2 : (C i).s ≤ 4611686018427387904
      case neg =>
        have k4 : decide (4611686018427387904 < (C i).s) = true := by simp; omega
        have HN : Hid (¬ (C i).s ≤ 4611686018427387904) := h2
        clear h2 h1
        go_upto_region 6 with fail
        rw [HWA.out]
        go_quiet (fail)
        go_wp2_with fail
        go_ret
        have hb5 := HA.out.2.1.trans (HA.out.2.2.mono HA.out.2.1.size)
        have hX : SF p n C → False := fun hG => absurd (hG.2 i hlt).2 (by have := HN.out; omega)
        have hY : ∀ q, Below w.heap.size w (wa.drewN q) := fun q => HP.out.2.2.trans ((hb5.trans ((below_drewNq _ _ q).mono hb5.size)).mono HP.out.2.2.size)
        first | exact ⟨false, rfl, ⟨fun e => (by cases e), fun hG => (hX hG).elim⟩, hY _⟩ | exact .inl ⟨rfl, hX, hY _⟩
      have k4 : decide (4611686018427387904 < (C i).s) = false := by simp; omega
      have HN : Hid ((C i).n = p.nw i ∧ (C i).s ≤ 4611686018427387904) := ⟨h1, h2⟩
      clear h1 h2
      go_upto_region 6 with fail
      rw [HWA.out]
      go_quiet (fail)
      go_wp2_with fail
      have hb5 := HA.out.2.1.trans (HA.out.2.2.mono HA.out.2.1.size)
      refine ⟨⟨i + 1, rfl, hlt, fun j hj => ?_, hb5.trans ((below_drewNq _ _ _).mono hb5.size)⟩, hme⟩
      by_cases e : j = i
      · rw [e]
        exact HN.out
      · exact HA.out.1 j (by omega)
    have dlt : decide ((i : Int) < (n : Int)) = false := by simp; omega
    obtain rfl : i = n := by omega
    have HA : Hid ((∀ j, j < i → sf1 p C j) ∧ Below wb.heap.size wb wr) := ⟨hall, hbr⟩
    clear hall hbr
    go_wp2_with fail
    go_ret
    exact ⟨true, rfl, ⟨fun _ => ⟨HE.out, HA.out.1⟩, fun _ => rfl⟩, HP.out.2.2.trans (HA.out.2.mono HP.out.2.2.size)⟩
end Go.Proofs.YtagchghhpggnlaaGreat
namespace Go.Proofs.YtagchghhpggnlaaGreat
open Go.ChangeShapes Go.WideShapes Go.ChangeAt Go.RowKit
set_option linter.unusedVariables false
set_option linter.unusedSimpArgs false

/-! ### so many steps, whatever they come to -/
def Sts (p : Pl) (A : Ab) : Nat → Ab → Prop
  | 0, B => B = A
  | n + 1, C => ∃ B x c, Sts p A n B ∧ StepR p B x c C
theorem over_stay {p : Pl} {A B : Ab} {x : Se} {c : Int} (ho : Over p A) (h : StepR p A x c B) : B = A ∧ c = 128 := by
  rcases h with ⟨_, e, _, rfl⟩ | ⟨h9, _⟩
  · exact ⟨rfl, e⟩
  · exact absurd ho h9
theorem EndR.over {p : Pl} {A C : Ab} (h : EndR p A C) : Over p C := by
  obtain ⟨n, B, x, c, _, h2, h3⟩ := h
  rcases h2 with ⟨ho, _, _, rfl⟩ | ⟨_, z, _, ⟨e, _, _, rfl⟩ | ⟨_, e, _⟩⟩
  · exact ho
  · exact .inl e
  · exact absurd e h3
/-- where so many steps lead -/
theorem sts_end {p : Pl} {A C : Ab} {K : Nat} {B' : Ab} {x : Se} {c : Int} (h1 : StepsR p A K B') (h2 : StepR p B' x c C) (hc : c ≠ 0) : ∀ {n : Nat} {B : Ab}, Sts p A n B → (n ≤ K → StepsR p A n B) ∧ (K < n → B = C)
  | 0, B, h => by
    obtain rfl : B = A := h
    exact ⟨fun _ => .zero, fun e => absurd e (Nat.not_lt_zero _)⟩
  | n + 1, D, h => by
    obtain ⟨B, y, d, hB, hs⟩ := h
    obtain ⟨i1, i2⟩ := sts_end h1 h2 hc hB
    have hov : Over p C := EndR.over ⟨K, B', x, c, h1, h2, hc⟩
    refine ⟨fun hle => ?_, fun hlt => ?_⟩
    · obtain ⟨B1, x1, C1, j1, j2, j3⟩ := h1.pre n (by omega)
      obtain rfl := (i1 (by omega)).one j1
      obtain ⟨_, _, rfl⟩ := j2.one hs
      exact j3
    · by_cases e : n = K
      · obtain rfl := e
        obtain rfl := (i1 (Nat.le_refl _)).one h1
        exact (hs.one h2).2.2
      · obtain rfl := i2 (by omega)
        exact (over_stay hov hs).1
theorem StepsR.rest {p : Pl} {A : Ab} {n : Nat} {B : Ab} (h : StepsR p A n B) : ∀ {k : Nat} {D : Ab}, StepsR p A (n + k) D → StepsR p B k D
  | 0, D, h' => by
    obtain rfl := h.one h'
    exact .zero
  | k + 1, D, h' => by
    cases h' with
    | more h1 h2 => exact (h.rest h1).more h2
theorem steps_m {p : Pl} {A : Ab} {n : Nat} {B : Ab} (h : StepsR p A n B) (h0 : 0 < n) : (B.m : Int) ≤ p.bu := by
  cases h with
  | zero => omega
  | @more n A' _ x h1 h2 =>
    obtain ⟨ho, _, _, rfl⟩ := h2.zero
    have : ¬ p.bu ≤ (A'.m : Int) := fun e => ho (.inr (.inr e))
    show ((A'.m + 1 : Nat) : Int) ≤ p.bu
    omega
/-- a run that goes on for more steps than its budget has ended -/
theorem sts_all {p : Pl} {A C : Ab} (h : EndR p A C) (hb : 0 ≤ p.bu) {n : Nat} (hn : p.bu < (n : Int)) {B : Ab} (hs : Sts p A n B) : B = C := by
  obtain ⟨K, B', x, c, h1, h2, h3⟩ := h
  refine (sts_end h1 h2 h3 hs).2 ?_
  rcases Nat.eq_zero_or_pos K with e | e
  · omega
  · have hm := h1.m
    have := steps_m h1 e
    omega
theorem Sts.add {p : Pl} {A B : Ab} {n : Nat} (h : Sts p A n B) : ∀ {k : Nat} {C : Ab}, Sts p B k C → Sts p A (n + k) C
  | 0, C, h' => by
    obtain rfl : C = B := h'
    exact h
  | k + 1, C, h' => by
    obtain ⟨D, x, c, h1, h2⟩ := h'
    exact ⟨D, x, c, h.add h1, h2⟩
/-- the point at which a run is stopped: opened anew it ends alike -/
theorem split_end {p : Pl} {C : Ab} (h : EndR p (fstA p) C) {n : Nat} {B : Ab} (hs : Sts p (fstA p) n B) : EndR p { B with f := 0 } C ∧ ∃ k, StepsR p (fstA p) k { B with f := 0 } := by
  obtain ⟨K, B', x, c, h1, h2, h3⟩ := h
  obtain ⟨i1, i2⟩ := sts_end h1 h2 h3 hs
  by_cases hle : n ≤ K
  · have hB := i1 hle
    have hf := steps_f (show (fstA p).f = 0 from rfl) hB
    have e : ({ B with f := 0 } : Ab) = B := by cases B; simp at hf; simp [hf]
    rw [e]
    refine ⟨⟨K - n, B', x, c, hB.rest (by rw [show n + (K - n) = K by omega]; exact h1), h2, h3⟩, n, hB⟩
  · obtain rfl := i2 (by omega)
    have hf := steps_f (show (fstA p).f = 0 from rfl) h1
    have e : ({ B with f := 0 } : Ab) = B' := by
      rcases h2 with ⟨ho, _, _, rfl⟩ | ⟨_, z, _, ⟨_, _, _, rfl⟩ | ⟨_, e, _⟩⟩
      · cases B; simp at hf; simp [hf]
      · cases B'; simp at hf; simp [hf]
      · exact absurd e h3
    rw [e]
    exact ⟨⟨0, B', x, c, .zero, h2, h3⟩, K, h1⟩
theorem steps_sent {p : Pl} (hp : PlOk p) {n : Nat} {B : Ab} (h : StepsR p (fstA p) n B) : ∀ j, j < p.nq → B.s j ≤ 256 + 16 * (n : Int) := by
  induction h with
  | zero =>
    intro j hj
    have h1 := cntS_le p.S p.ns (j : Int)
    have h2 := hp.gs.1
    show ((cntS p.S p.ns (j : Int) : Nat) : Int) ≤ _
    omega
  | more h1 h2 ih =>
    rename_i n A D x
    obtain ⟨ho, hl, hc, rfl⟩ := h2.zero
    have hok := steps_ok hp (fst_ok hp) h1
    have hF := fitE hp hok hl.1
    have hon := hF.eo.on
    have hst := hF.sent hok.m
    intro j hj
    have := ih j hj
    show (if j = x.d.toNat then (effA p A x).sent else A.s j) ≤ _
    split
    · rename_i e
      have := ih x.d.toNat hF.dn.1
      rw [hst]
      omega
    · omega
/-- the point of a run fits -/
theorem point_fits {p : Pl} (hp : PlOk p) {k : Nat} {A : Ab} (h : StepsR p (fstA p) k A) {m : Nat} {d : Nat → Se} {SA : Nat → Sa} (hd : Pnd A m d) (hs : ∀ j, j < p.nq → (SA j).n = p.nw j ∧ (SA j).d = A.d j ∧ (SA j).s = A.s j) : PF p ⟨p.nq, SA, A.K, m, d, A.m, A.Z⟩ := by
  have hok := steps_ok hp (fst_ok hp) h
  have hm := h.m
  have hm0 : (fstA p).m = 0 := rfl
  have hbu := steps_bu hp.bu.1 h
  have hb := hp.bu
  refine ⟨⟨rfl, fun j hj => ⟨(hs j hj).1, ?_⟩⟩, hd.rsg hok, ?_, fun j hj => ?_⟩
  · have := steps_sent hp h j hj
    rw [(hs j hj).2.2]
    omega
  · show (A.m : Int) ≤ p.bu
    omega
  · have he := hok.ev (d j) ((hd.set _).2 ⟨j, hj, rfl⟩)
    refine ⟨he.d, he.k, he.s, ?_⟩
    have hsl : (d j).s.toNat < p.nq := by have := he.s; omega
    show (d j).q < (SA (d j).s.toNat).s
    rw [(hs _ hsl).2.2]
    exact he.q.2
end Go.Proofs.YtagchghhpggnlaaGreat
namespace Go.Proofs.YtagchghhpggnlaaGreat
open Go.ChangeShapes Go.WideShapes Go.ChangeAt Go.RowKit
set_option linter.unusedVariables false
set_option linter.unusedSimpArgs false

/-! ### every run ends -/
def Fn (A : Ab) : Prop := ∃ (n : Nat) (X : Nat → Se), ∀ x, A.M x → InX n X x
theorem min_of (M : Se → Prop) (X : Nat → Se) : ∀ n, (∃ i, i < n ∧ M (X i)) → ∃ i, i < n ∧ M (X i) ∧ ∀ j, j < n → M (X j) → klt (X j) (X i) = false
  | 0, ⟨i, hi, _⟩ => absurd hi (Nat.not_lt_zero _)
  | n + 1, h => by
    by_cases h1 : ∃ i, i < n ∧ M (X i)
    · obtain ⟨i, hi, hm, hmin⟩ := min_of M X n h1
      by_cases h2 : M (X n) ∧ klt (X n) (X i) = true
      · refine ⟨n, by omega, h2.1, fun j hj hMj => ?_⟩
        by_cases e : j = n
        · rw [e]
          apply Bool.eq_false_iff.2
          rw [Ne, klt_iff]
          omega
        · have h3 := hmin j (by omega) hMj
          apply Bool.eq_false_iff.2
          have h4 := h2.2
          have h5 : ¬ klt (X j) (X i) = true := by rw [h3]; decide
          rw [klt_iff] at h4 h5
          rw [Ne, klt_iff]
          omega
      · refine ⟨i, by omega, hm, fun j hj hMj => ?_⟩
        by_cases e : j = n
        · rw [e] at hMj ⊢
          exact Bool.eq_false_iff.2 fun e9 => h2 ⟨hMj, e9⟩
        · exact hmin j (by omega) hMj
    · obtain ⟨i, hi, hm⟩ := h
      obtain rfl : i = n := by
        apply Classical.byContradiction
        intro e
        exact h1 ⟨i, by omega, hm⟩
      refine ⟨i, by omega, hm, fun j hj hMj => ?_⟩
      obtain rfl : j = i := by
        apply Classical.byContradiction
        intro e
        exact h1 ⟨j, by omega, hMj⟩
      apply Bool.eq_false_iff.2
      rw [Ne, klt_iff]
      omega
theorem fn_least {p : Pl} {A : Ab} (ho : AOk2 p A) (hf : Fn A) (hx : ∃ x, A.M x) : ∃ e, Lst A.M e := by
  obtain ⟨n, X, hX⟩ := hf
  obtain ⟨x, hx⟩ := hx
  obtain ⟨i, hi, rfl⟩ := hX x hx
  obtain ⟨k, hk, hm, hmin⟩ := min_of A.M X n ⟨i, hi, hx⟩
  refine ⟨X k, hm, fun y hy hne => ?_⟩
  obtain ⟨j, hj, rfl⟩ := hX y hy
  have h1 := hmin j hj hy
  have h2 := ho.kd (X j) (X k) hy hm
  have h3 : ¬ klt (X j) (X k) = true := by rw [h1]; decide
  rw [klt_iff] at h3
  rw [klt_iff]
  apply Classical.byContradiction
  intro hc
  exact hne (h2 (by omega) (by omega))
theorem StepsR.cons {p : Pl} {A A' : Ab} {x : Se} (h : StepR p A x 0 A') {n : Nat} {B : Ab} (hs : StepsR p A' n B) : StepsR p A (n + 1) B := by
  induction hs with
  | zero => exact (StepsR.zero).more h
  | more h1 h2 ih => exact ih.more h2
theorem end_any {p : Pl} (hp : PlOk p) : ∀ (k : Nat) (A : Ab), AOk2 p A → Fn A → p.bu - (A.m : Int) ≤ (k : Int) → ∃ C, EndR p A C := by
  intro k
  induction k with
  | zero =>
    intro A ho hf hk
    exact ⟨A, 0, A, zeroE, 128, .zero, .inl ⟨.inr (.inr (by show p.bu ≤ (A.m : Int); omega)), rfl, rfl, rfl⟩, by decide⟩
  | succ k ih =>
    intro A ho hf hk
    by_cases hov : Over p A
    · exact ⟨A, 0, A, zeroE, 128, .zero, .inl ⟨hov, rfl, rfl, rfl⟩, by decide⟩
    · have hx : ∃ x, A.M x := by
        apply Classical.byContradiction
        intro hc
        exact hov (.inr (.inl fun y hy => absurd ⟨y, hy⟩ hc))
      obtain ⟨e, he⟩ := fn_least ho hf hx
      by_cases hc : (effA p A e).code = 0
      · have hst : StepR p A e 0 (nextA p A e) := .inr ⟨hov, e, he, .inr ⟨hc, rfl, rfl, rfl⟩⟩
        have hfn : Fn (nextA p A e) := by
          obtain ⟨n, X, hX⟩ := hf
          refine ⟨n + (effA p A e).on, fun j => if j < n then X j else outS (effA p A e) (j - n), fun x hx => ?_⟩
          rcases hx with ⟨hx, _⟩ | ⟨j, hj, rfl⟩
          · obtain ⟨j, hj, rfl⟩ := hX x hx
            exact ⟨j, by omega, by dsimp only; rw [if_pos hj]⟩
          · exact ⟨n + j, by omega, by dsimp only; rw [if_neg (by omega), show n + j - n = j by omega]⟩
        obtain ⟨C, n, B, y, c, h1, h2, h3⟩ := ih (nextA p A e) (ho.next hp he.1 fun e9 => hov (.inr (.inr e9))) hfn (by show p.bu - ((A.m + 1 : Nat) : Int) ≤ (k : Int); omega)
        exact ⟨C, n + 1, B, y, c, h1.cons hst, h2, h3⟩
      · exact ⟨_, 0, A, zeroE, (effA p A e).code, .zero, .inr ⟨hov, e, he, .inl ⟨hc, rfl, rfl, rfl⟩⟩, hc⟩
theorem end_some {p : Pl} (hp : PlOk p) : ∃ C, EndR p (fstA p) C :=
  end_any hp p.bu.toNat (fstA p) (fst_ok hp) ⟨p.ns, evS p.S, fun x hx => hx⟩ (by have := hp.bu; show p.bu - ((0 : Nat) : Int) ≤ _; omega)
end Go.Proofs.YtagchghhpggnlaaGreat
