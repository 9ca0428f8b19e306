import Derived.Test.YtagchghhpggnlaaGreatYRO2
import Derived.Test.YtagchghhpggnlaaGreatYRR1
namespace Go.Proofs.YtagchghhpggnlaaGreat
open Go.ChangeShapes Go.WideShapes Go.ChangeAt Go.RowKit
set_option linter.unusedVariables false
set_option linter.unusedSimpArgs false

/-- the keys rise -/
def Rsg (n : Nat) (X : Nat → Se) : Prop := ∀ i, i + 1 < n → klt (X i) (X (i + 1)) = true

set_option maxRecDepth 100000 in
set_option maxHeartbeats 4000000 in
theorem rising_any (p : Option Addr) (n cp : Nat) (X : Nat → Se) (hn : n ≤ 2932031007402) (w : World) (h : SIn w p n X) : Calls Tryz.prog 31 #[.slice p n cp] w fun e w' => ∃ q, e = .returned (.bool q) ∧ (q = true ↔ Rsg n X) ∧ Below w.heap.size w w' := by
  have HH : Hid (SIn w p n X) := h
  clear h
  go_enter Tryz.func31, Tryz.ntmps31
  go_wp2_with fail
  go_loopw [3] (fun x wr => ∃ i : Nat, x = .int .i64 (i : Int) ∧ 1 ≤ i ∧ i ≤ n + 1 ∧ (∀ k, k + 1 < i → k + 1 < n → klt (X k) (X (k + 1)) = true) ∧ Below w.heap.size w wr) (fun x _ => n - (intOf x).toNat)
  case atStart => exact ⟨1, rfl, Nat.le_refl _, by omega, fun k hk => absurd hk (by omega), Below.refl _ _⟩
  case round =>
    obtain ⟨i, rfl, h1, h2, hall, hbr⟩ := hrel
    by_cases hlt : i < n
    case neg =>
      have dlt : decide ((i : Int) < (n : Int)) = false := by simp; omega
      go_wp2_with fail
      go_ret
      exact ⟨true, rfl, ⟨fun _ k hk => hall k (by omega) hk, fun _ => rfl⟩, hbr⟩
    have dlt : decide ((i : Int) < (n : Int)) = true := by simp; omega
    have hm := smeas hlt
    obtain ⟨j, hj⟩ : ∃ j, j + 1 = i := ⟨i - 1, by omega⟩
    have i0 : (0 : Int) ≤ (i : Int) := by omega
    have i1 : (i : Int) < (n : Int) := by omega
    have j0 : (0 : Int) ≤ (j : Int) := by omega
    have j1 : (j : Int) < (n : Int) := by omega
    have ei : IntKind.i64.wrap ((i : Int) + 1) = (i : Int) + 1 := by rw [IntKind.wrap_i64]; omega
    have ej : IntKind.i64.wrap ((i : Int) - 1) = (j : Int) := by rw [IntKind.wrap_i64]; omega
    obtain ⟨b, o, hp, hl, b0, b1, b2, b3, b4, b5⟩ := (HH.out.below hbr).at hlt
    obtain ⟨b', o', hp', _, a0, a1, a2, a3, a4, a5⟩ := (HH.out.below hbr).at (i := j) (by omega)
    subst hp
    injection hp' with hp'
    injection hp' with g1 g2 g3
    subst g1 g2
    obtain ⟨r, hr⟩ : ∃ r, kc (X j) (X i) = r := ⟨_, rfl⟩
    have HC : ∀ w', Below wr.heap.size wr w' → Hid (Calls Tryz.prog 62 #[.agg #[.int .u64 (X j).t, .int .i64 (X j).s, .int .u64 (X j).q, .int .i64 (X j).d, .int .i64 (X j).k, .int .i64 (X j).v], .agg #[.int .u64 (X i).t, .int .i64 (X i).s, .int .u64 (X i).q, .int .i64 (X i).d, .int .i64 (X i).k, .int .i64 (X i).v]] w' fun e w9 => e = .returned (.int .i64 r) ∧ Below wr.heap.size wr w9) := fun w' hb => by
      refine (cev_any (X j) (X i) w').mono ?_
      rintro e w9 ⟨h1, h2⟩
      exact ⟨by first | (rw [h1, ← hr]; done) | (rw [h1, ← hr]; rfl), hb.trans (h2.mono hb.size)⟩
    have KK : ∀ w1, Below wr.heap.size wr w1 → Hid ((w1.cell? ⟨b, o + j * 6, none⟩ = some (.int .u64 (X j).t) ∧ w1.cell? ⟨b, o + j * 6 + 1, none⟩ = some (.int .i64 (X j).s) ∧ w1.cell? ⟨b, o + j * 6 + 2, none⟩ = some (.int .u64 (X j).q) ∧ w1.cell? ⟨b, o + j * 6 + 3, none⟩ = some (.int .i64 (X j).d) ∧ w1.cell? ⟨b, o + j * 6 + 4, none⟩ = some (.int .i64 (X j).k) ∧ w1.cell? ⟨b, o + j * 6 + 5, none⟩ = some (.int .i64 (X j).v)) ∧ w1.cell? ⟨b, o + i * 6, none⟩ = some (.int .u64 (X i).t) ∧ w1.cell? ⟨b, o + i * 6 + 1, none⟩ = some (.int .i64 (X i).s) ∧ w1.cell? ⟨b, o + i * 6 + 2, none⟩ = some (.int .u64 (X i).q) ∧ w1.cell? ⟨b, o + i * 6 + 3, none⟩ = some (.int .i64 (X i).d) ∧ w1.cell? ⟨b, o + i * 6 + 4, none⟩ = some (.int .i64 (X i).k) ∧ w1.cell? ⟨b, o + i * 6 + 5, none⟩ = some (.int .i64 (X i).v)) := fun w1 hb => ⟨⟨(cell_below (a := ⟨b, o + j * 6, none⟩) hb hl).trans a0, (cell_below (a := ⟨b, o + j * 6 + 1, none⟩) hb hl).trans a1, (cell_below (a := ⟨b, o + j * 6 + 2, none⟩) hb hl).trans a2, (cell_below (a := ⟨b, o + j * 6 + 3, none⟩) hb hl).trans a3, (cell_below (a := ⟨b, o + j * 6 + 4, none⟩) hb hl).trans a4, (cell_below (a := ⟨b, o + j * 6 + 5, none⟩) hb hl).trans a5⟩, (cell_below (a := ⟨b, o + i * 6, none⟩) hb hl).trans b0, (cell_below (a := ⟨b, o + i * 6 + 1, none⟩) hb hl).trans b1, (cell_below (a := ⟨b, o + i * 6 + 2, none⟩) hb hl).trans b2, (cell_below (a := ⟨b, o + i * 6 + 3, none⟩) hb hl).trans b3, (cell_below (a := ⟨b, o + i * 6 + 4, none⟩) hb hl).trans b4, (cell_below (a := ⟨b, o + i * 6 + 5, none⟩) hb hl).trans b5⟩
    have HR : Hid (kc (X j) (X i) = r ∧ j + 1 = i ∧ (∀ k, k + 1 < i → k + 1 < n → klt (X k) (X (k + 1)) = true) ∧ Below w.heap.size w wr) := ⟨hr, hj, hall, hbr⟩
    clear hr hj hall hbr
    by_cases hlt0 : 0 ≤ r
    case pos =>
      have dR : decide (0 ≤ r) = true := by simpa using hlt0
      go_upto_region 4 with fail
      go_region_held3 (fun w' => (w'.cell? ⟨b, o + j * 6, none⟩ = some (.int .u64 (X j).t) ∧ w'.cell? ⟨b, o + j * 6 + 1, none⟩ = some (.int .i64 (X j).s) ∧ w'.cell? ⟨b, o + j * 6 + 2, none⟩ = some (.int .u64 (X j).q) ∧ w'.cell? ⟨b, o + j * 6 + 3, none⟩ = some (.int .i64 (X j).d) ∧ w'.cell? ⟨b, o + j * 6 + 4, none⟩ = some (.int .i64 (X j).k) ∧ w'.cell? ⟨b, o + j * 6 + 5, none⟩ = some (.int .i64 (X j).v)) ∧ w'.cell? ⟨b, o + i * 6, none⟩ = some (.int .u64 (X i).t) ∧ w'.cell? ⟨b, o + i * 6 + 1, none⟩ = some (.int .i64 (X i).s) ∧ w'.cell? ⟨b, o + i * 6 + 2, none⟩ = some (.int .u64 (X i).q) ∧ w'.cell? ⟨b, o + i * 6 + 3, none⟩ = some (.int .i64 (X i).d) ∧ w'.cell? ⟨b, o + i * 6 + 4, none⟩ = some (.int .i64 (X i).k) ∧ w'.cell? ⟨b, o + i * 6 + 5, none⟩ = some (.int .i64 (X i).v)) (first | exact ⟨⟨a0, a1, a2, a3, a4, a5⟩, b0, b1, b2, b3, b4, b5⟩ | exact KP | go_keep) ((go_at_call 62; (with_reducible refine ((HC _ (Below.drew (Below.refl _ wr))).out).mono ?_); rintro e w1 ⟨rfl, hb1⟩; have KP := (KK w1 hb1).out))
      all_goals (try go_wp2_with fail)
      all_goals (
        go_ret
        refine ⟨false, rfl, ⟨fun e => (by cases e), fun hG => ?_⟩, HR.out.2.2.2.trans (hb1.mono HR.out.2.2.2.size)⟩
        have h9 := hG j (by have := HR.out.2.1; omega)
        rw [HR.out.2.1] at h9
        unfold klt at h9
        rw [HR.out.1] at h9
        have h7 := of_decide_eq_true h9
        omega)
    have dR : decide (0 ≤ r) = false := by simpa using hlt0
    go_upto_region 4 with fail
    go_region_held3 (fun w' => (w'.cell? ⟨b, o + j * 6, none⟩ = some (.int .u64 (X j).t) ∧ w'.cell? ⟨b, o + j * 6 + 1, none⟩ = some (.int .i64 (X j).s) ∧ w'.cell? ⟨b, o + j * 6 + 2, none⟩ = some (.int .u64 (X j).q) ∧ w'.cell? ⟨b, o + j * 6 + 3, none⟩ = some (.int .i64 (X j).d) ∧ w'.cell? ⟨b, o + j * 6 + 4, none⟩ = some (.int .i64 (X j).k) ∧ w'.cell? ⟨b, o + j * 6 + 5, none⟩ = some (.int .i64 (X j).v)) ∧ w'.cell? ⟨b, o + i * 6, none⟩ = some (.int .u64 (X i).t) ∧ w'.cell? ⟨b, o + i * 6 + 1, none⟩ = some (.int .i64 (X i).s) ∧ w'.cell? ⟨b, o + i * 6 + 2, none⟩ = some (.int .u64 (X i).q) ∧ w'.cell? ⟨b, o + i * 6 + 3, none⟩ = some (.int .i64 (X i).d) ∧ w'.cell? ⟨b, o + i * 6 + 4, none⟩ = some (.int .i64 (X i).k) ∧ w'.cell? ⟨b, o + i * 6 + 5, none⟩ = some (.int .i64 (X i).v)) (first | exact ⟨⟨a0, a1, a2, a3, a4, a5⟩, b0, b1, b2, b3, b4, b5⟩ | exact KP | go_keep) ((go_at_call 62; (with_reducible refine ((HC _ (Below.drew (Below.refl _ wr))).out).mono ?_); rintro e w1 ⟨rfl, hb1⟩; have KP := (KK w1 hb1).out))
    all_goals (try go_wp2_with fail)
    all_goals (
      refine ⟨⟨i + 1, rfl, by omega, by omega, fun k hk1 hk2 => ?_, HR.out.2.2.2.trans (hb1.mono HR.out.2.2.2.size)⟩, hm⟩
      by_cases e : k + 1 < i
      · exact HR.out.2.2.1 k e hk2
      · have h8 : k = j := by have := HR.out.2.1; omega
        rw [h8, HR.out.2.1]
        unfold klt
        rw [HR.out.1]
        simp
        omega)

end Go.Proofs.YtagchghhpggnlaaGreat
namespace Go.Proofs.YtagchghhpggnlaaGreat
open Go.ChangeShapes Go.WideShapes Go.ChangeAt Go.RowKit
set_option linter.unusedVariables false
set_option linter.unusedSimpArgs false

/-! ### what is pending, as a rising list -/
theorem stb_set {n : Nat} {c d : Nat → Se} (hs : Stb klt 0 n c d) (x : Se) : InX n d x ↔ InX n c x := by
  obtain ⟨f, g, hf⟩ := hs
  constructor
  · rintro ⟨i, hi, rfl⟩
    exact ⟨f i, (hf.inr i (Nat.zero_le _) hi).2, (hf.val i).symm⟩
  · rintro ⟨i, hi, rfl⟩
    refine ⟨g i, ?_, by rw [hf.val, hf.ri]⟩
    rcases Nat.lt_or_ge (g i) n with h | h
    · exact h
    · have := hf.out (g i) (by omega)
      rw [hf.ri] at this
      omega
theorem stb_inj {n : Nat} {c d : Nat → Se} (hs : Stb klt 0 n c d) (hc : Inj n c) : Inj n d := fun i j hi hj e => by
  obtain ⟨f, g, hf⟩ := hs
  rw [hf.val, hf.val] at e
  have := hc _ _ (hf.inr i (Nat.zero_le _) hi).2 (hf.inr j (Nat.zero_le _) hj).2 e
  rw [← hf.li i, this, hf.li]
structure Pnd (A : Ab) (n : Nat) (X : Nat → Se) : Prop where
  srt : Srt klt 0 n X
  set : ∀ x, A.M x ↔ InX n X x
  inj : Inj n X
theorem Pnd.hp {A : Ab} {n : Nat} {X : Nat → Se} (h : Pnd A n X) : Hp n X := fun i h0 hi => h.srt (par i) i (Nat.zero_le _) (by unfold par; omega) hi
theorem Pnd.fst {p : Pl} {d : Nat → Se} (hs : Stb klt 0 p.ns (evS p.S) d) (ht : Srt klt 0 p.ns d) : Pnd (fstA p) p.ns d := ⟨ht, fun x => (stb_set hs x).symm, fstO_inj hs⟩
theorem Pnd.least {p : Pl} {A : Ab} {n : Nat} {X : Nat → Se} (h : Pnd A n X) (ho : AOk2 p A) {e : Se} (he : Lst A.M e) : 0 < n ∧ X 0 = e := by
  have hn : 0 < n := by
    obtain ⟨i, hi, _⟩ := (h.set e).1 he.1
    omega
  exact ⟨hn, (top_least ho h.hp h.set hn).one he⟩
theorem Pnd.rsg {p : Pl} {A : Ab} {n : Nat} {X : Nat → Se} (h : Pnd A n X) (ho : AOk2 p A) : Rsg n X := fun i hi => by
  have h1 := h.srt i (i + 1) (Nat.zero_le _) (by omega) hi
  apply Classical.byContradiction
  intro hc
  have hk := ho.kd (X i) (X (i + 1)) ((h.set _).2 ⟨i, by omega, rfl⟩) ((h.set _).2 ⟨i + 1, hi, rfl⟩)
  have e1 : ¬ klt (X (i + 1)) (X i) = true := by rw [h1]; decide
  rw [klt_iff] at hc e1
  have := h.inj i (i + 1) (by omega) hi (hk (by omega) (by omega))
  omega
/-- the list behind a step -/
theorem Pnd.next {p : Pl} (hp : PlOk p) {A : Ab} {n m : Nat} {X D d : Nat → Se} {c : Nat → Se} (h : Pnd A n X) (ho : AOk2 p A) (hn : 0 < n) (hm : m = (effA p A (X 0)).on) (h1 : Stb klt 0 m (outS (effA p A (X 0))) D) (hc1 : ∀ j, j < n - 1 → c j = X (j + 1)) (hc2 : ∀ j, j < m → c (n - 1 + j) = D j) (h2 : Stb klt 0 (n - 1 + m) c d) (h3 : Srt klt 0 (n - 1 + m) d) : Pnd (nextA p A (X 0)) (n - 1 + m) d := by
  have hM0 : A.M (X 0) := (h.set _).2 ⟨0, hn, rfl⟩
  have hF := fitE hp ho hM0
  have hmm := ho.m
  have hset : ∀ x, InX (n - 1 + m) c x ↔ (A.M x ∧ x ≠ X 0) ∨ InX m (outS (effA p A (X 0))) x := fun x => by
    constructor
    · rintro ⟨j, hj, rfl⟩
      by_cases e : j < n - 1
      · left
        rw [hc1 j e]
        refine ⟨(h.set _).2 ⟨j + 1, by omega, rfl⟩, fun e9 => ?_⟩
        have := h.inj (j + 1) 0 (by omega) hn e9
        omega
      · right
        have e9 := hc2 (j - (n - 1)) (by omega)
        rw [show n - 1 + (j - (n - 1)) = j by omega] at e9
        rw [e9]
        exact (stb_set h1 _).1 ⟨j - (n - 1), by omega, rfl⟩
    · rintro (⟨hx, hne⟩ | hx)
      · obtain ⟨j, hj, rfl⟩ := (h.set x).1 hx
        have hj0 : j ≠ 0 := fun e => hne (by rw [e])
        exact ⟨j - 1, by omega, by rw [hc1 (j - 1) (by omega), show j - 1 + 1 = j by omega]⟩
      · obtain ⟨j, hj, rfl⟩ := (stb_set h1 x).2 hx
        exact ⟨n - 1 + j, by omega, hc2 j hj⟩
  have hinjD : Inj m D := stb_inj h1 fun i j hi hj e => hF.inj hmm (by omega) (by omega) e
  have hinj : Inj (n - 1 + m) c := fun i j hi hj e => by
    have cross : ∀ a b, a < n - 1 → n - 1 ≤ b → b < n - 1 + m → c a ≠ c b := fun a b ha hb1 hb2 e9 => by
      rw [hc1 a ha] at e9
      have e8 := hc2 (b - (n - 1)) (by omega)
      rw [show n - 1 + (b - (n - 1)) = b by omega] at e8
      rw [e8] at e9
      obtain ⟨k, hk, e7⟩ := (stb_set h1 (D (b - (n - 1)))).1 ⟨b - (n - 1), by omega, rfl⟩
      refine hF.fresh ho (i := k) (by omega) ?_
      rw [e7, ← e9]
      exact (h.set _).2 ⟨a + 1, by omega, rfl⟩
    by_cases ei : i < n - 1
    · by_cases ej : j < n - 1
      · rw [hc1 i ei, hc1 j ej] at e
        have := h.inj _ _ (by omega) (by omega) e
        omega
      · exact absurd e (cross i j ei (by omega) hj)
    · by_cases ej : j < n - 1
      · exact absurd e.symm (cross j i ej (by omega) hi)
      · have e1 := hc2 (i - (n - 1)) (by omega)
        have e2 := hc2 (j - (n - 1)) (by omega)
        rw [show n - 1 + (i - (n - 1)) = i by omega] at e1
        rw [show n - 1 + (j - (n - 1)) = j by omega] at e2
        rw [e1, e2] at e
        have := hinjD _ _ (by omega) (by omega) e
        omega
  refine ⟨h3, fun x => ?_, stb_inj h2 hinj⟩
  rw [stb_set h2 x, hset x, hm]
  exact Iff.rfl
theorem steps_bu {p : Pl} (hb : 0 ≤ p.bu) {n : Nat} {B : Ab} (h : StepsR p (fstA p) n B) : (n : Int) ≤ p.bu := by
  have hm0 : (fstA p).m = 0 := rfl
  cases h with
  | zero => simpa using hb
  | @more n A _ x h1 h2 =>
    obtain ⟨ho, _⟩ := h2.zero
    have hm := h1.m
    have : ¬ p.bu ≤ (A.m : Int) := fun e => ho (.inr (.inr e))
    omega
/-- the end of a run and what its result says -/
theorem EndR.last {p : Pl} {C : Ab} (h : EndR p (fstA p) C) {k cd : Int} {x : Se} (hr : ResK p C k cd x) : ∃ B, StepsR p (fstA p) C.m B ∧ C.Z = B.Z ∧ C.K = B.K ∧ C.d = B.d ∧ C.s = B.s ∧ (Idle p B → k = 1 ∧ cd = 0 ∧ x = zeroE) ∧ (¬ Idle p B → Spent p B → k = 2 ∧ cd = 0 ∧ x = zeroE) ∧ (¬ Idle p B → ¬ Spent p B → k = 3 ∧ Lst B.M x ∧ cd = (effA p B x).code ∧ cd ≠ 0) := by
  obtain ⟨n, B, y, c, h1, h2, h3⟩ := h
  have hm := h1.m
  have hm0 : (fstA p).m = 0 := rfl
  have hf := steps_f (show (fstA p).f = 0 from rfl) h1
  rcases h2 with ⟨ho, _, _, rfl⟩ | ⟨ho, z, hz, ⟨e1, e2, _, rfl⟩ | ⟨_, e9, _⟩⟩
  · refine ⟨C, by rw [show C.m = n by omega]; exact h1, rfl, rfl, rfl, rfl, fun hi => ?_, fun hi hs => ?_, fun hi hs => ?_⟩
    · obtain ⟨a, b, c⟩ := hr.one (.inr ⟨hf, rfl, .inl ⟨hi, rfl, rfl⟩⟩)
      exact ⟨a, b, c⟩
    · obtain ⟨a, b, c⟩ := hr.one (.inr ⟨hf, rfl, .inr ⟨hi, .inl ⟨hs, rfl, rfl⟩⟩⟩)
      exact ⟨a, b, c⟩
    · rcases ho with o | o | o
      · exact absurd hf o
      · exact absurd o hi
      · exact absurd o hs
  · refine ⟨B, by show StepsR p (fstA p) B.m B; rw [show B.m = n by omega]; exact h1, rfl, rfl, rfl, rfl, fun hi => absurd (.inr (.inl hi)) ho, fun hi hs => absurd (.inr (.inr hs)) ho, fun hi hs => ?_⟩
    obtain ⟨a, b, c⟩ := hr.one (.inl ⟨e1, rfl, rfl, hz⟩)
    subst c
    exact ⟨a, hz, b, by rw [b]; exact e1⟩
  · exact absurd e9 h3
end Go.Proofs.YtagchghhpggnlaaGreat
