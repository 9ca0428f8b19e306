import Derived.Test.YtkfjcbnhohipgaaMB4
import Derived.BigQuiet
import Derived.Deep.RegionLaw
import Derived.Deep.RegionHeld3
import Derived.Deep.Cut
import Derived.Deep.DeepCutAuto
import Derived.Deep.CutBlock
import Derived.Deep.CutRange
import Derived.Deep.AppendLies
import Derived.Handy
import Derived.Lib.RabinKarpLaws
namespace Go.Proofs.Ytkfjcbnhohipgaa
open Go.ChangeShapes Go.WideShapes Go.ChangeAt Go.RowKit
set_option linter.unusedVariables false
set_option linter.unusedSimpArgs false


def lenAt (W : World) (a : Addr) : Nat := match W.cell? a with | some (.slice _ l _) => l | _ => 0
def qAt (W : World) (a : Addr) : Option Addr := match W.cell? a with | some (.slice q _ _) => q | _ => none
def cAt (W : World) (a : Addr) : Nat := match W.cell? a with | some (.slice _ _ c) => c | _ => 0
def lnL (W : World) (la : List Addr) (j : Nat) : Nat := match la[j]? with | some a => lenAt W a | none => 0
def ptrV (la : List Addr) : List Value := la.map fun a => .pointer (some a)
theorem sm_pos (f : Nat → Nat) : ∀ k, 0 < sm f k ↔ ∃ j, j < k ∧ 0 < f j
  | 0 => ⟨fun h => absurd h (by simp [sm]), fun ⟨j, h, _⟩ => by omega⟩
  | k + 1 => by
    have ih := sm_pos f k
    show 0 < sm f k + f k ↔ _
    constructor
    · intro h
      by_cases h1 : 0 < sm f k
      · obtain ⟨j, h2, h3⟩ := ih.1 h1
        exact ⟨j, by omega, h3⟩
      · exact ⟨k, by omega, by omega⟩
    · rintro ⟨j, h2, h3⟩
      by_cases h4 : j = k
      · subst h4; omega
      · have := ih.2 ⟨j, by omega, h3⟩
        omega
theorem lnL_pos (W : World) (la : List Addr) : 0 < sm (lnL W la) la.length ↔ ∃ a, a ∈ la ∧ 0 < lenAt W a := by
  rw [sm_pos]
  constructor
  · rintro ⟨j, h1, h2⟩
    unfold lnL at h2
    rw [List.getElem?_eq_getElem h1] at h2
    exact ⟨la[j], List.getElem_mem h1, h2⟩
  · rintro ⟨a, h1, h2⟩
    obtain ⟨j, h3⟩ := List.mem_iff_getElem?.1 h1
    have h4 : j < la.length := by
      rcases Nat.lt_or_ge j la.length with h | h
      · exact h
      · rw [List.getElem?_eq_none h] at h3; cases h3
    refine ⟨j, h4, ?_⟩
    unfold lnL
    rw [h3]
    exact h2
theorem total_list (la : List Addr) (hm : la.length ≤ 64) (B : Nat) (v : Value) (W : World) (hp : PR B W v (ptrV la)) (hs : ∀ a, a ∈ la → a.spot = none ∧ ∃ q l c, W.cell? a = some (.slice q l c) ∧ l ≤ 1024) :
    Calls Try.prog 34 #[v] W fun e W' => e = .returned (.int .i64 (sm (lnL W la) la.length : Nat)) ∧ W' = W := by
  have hlen : (ptrV la).length = la.length := by simp [ptrV]
  have hle : ∀ j, lnL W la j ≤ 1024 := fun j => by
    unfold lnL
    cases h1 : la[j]? with
    | none => simp
    | some a =>
      obtain ⟨_, q, l, c, h2, h3⟩ := hs a (List.mem_iff_getElem?.2 ⟨j, h1⟩)
      simp only [lenAt, h2]
      exact h3
  have hcs : ∀ j, j < la.length → ∃ b o, (fun j => (la[j]?).getD ⟨0, 0, none⟩) j = ⟨b, o, none⟩ ∧ W.cell? ⟨b, o, none⟩ = some (.slice ((fun j => qAt W ((la[j]?).getD ⟨0, 0, none⟩)) j) (lnL W la j) ((fun j => cAt W ((la[j]?).getD ⟨0, 0, none⟩)) j)) := fun j hj => by
    have h1 : la[j]? = some la[j] := List.getElem?_eq_getElem hj
    obtain ⟨h0, q, l, c, h2, h3⟩ := hs la[j] (List.getElem_mem hj)
    refine ⟨la[j].block, la[j].off, ?_, ?_⟩
    · show (la[j]?).getD _ = _
      rw [h1, Option.getD_some, ← h0]
    · show W.cell? _ = some (.slice (qAt W ((la[j]?).getD _)) (lnL W la j) (cAt W ((la[j]?).getD _)))
      unfold lnL
      rw [h1, Option.getD_some]
      have e : (⟨la[j].block, la[j].off, none⟩ : Addr) = la[j] := by rw [← h0]
      rw [e, h2]
      simp [qAt, lenAt, cAt, h2]
  rcases hp.2 with ⟨rfl, h0⟩ | ⟨g, cap, cur, rfl, hbg, hg, h3, h4, h5, h6⟩
  · rw [hlen] at h0
    have := total_any none la.length 0 (fun j => (la[j]?).getD ⟨0, 0, none⟩) _ (lnL W la) _ hm hle W (.inl h0) hcs
    rw [h0] at this ⊢
    exact this
  · rw [hlen]
    refine total_any (some ⟨g, 0, none⟩) la.length cap (fun j => (la[j]?).getD ⟨0, 0, none⟩) _ (lnL W la) _ hm hle W (.inr ⟨g, rfl, fun j hj => ?_⟩) hcs
    have h1 : la[j]? = some la[j] := List.getElem?_eq_getElem hj
    show _ = some (Value.pointer (some ((la[j]?).getD _)))
    rw [h1, Option.getD_some]
    have h7 : (ptrV la)[j]? = some (.pointer (some la[j])) := by simp [ptrV, h1]
    rw [← h6, List.getElem?_take, if_pos (by rw [hlen]; omega)] at h7
    unfold World.cell?
    rw [hg]
    simpa using h7
def ptrA (f : Nat → Addr) : Nat → List Addr
  | 0 => []
  | k + 1 => ptrA f k ++ [f k]
theorem ptrs_eq (f : Nat → Addr) : ∀ k, ptrs f k = ptrV (ptrA f k)
  | 0 => rfl
  | k + 1 => by simp [ptrs, ptrA, ptrV, ptrs_eq f k]
theorem ptrA_len (f : Nat → Addr) : ∀ k, (ptrA f k).length = k
  | 0 => rfl
  | k + 1 => by simp [ptrA, ptrA_len f k]
theorem ptrA_mem (f : Nat → Addr) (a : Addr) : ∀ k, a ∈ ptrA f k ↔ ∃ j, j < k ∧ a = f j
  | 0 => ⟨fun h => by simp [ptrA] at h, fun ⟨j, h, _⟩ => by omega⟩
  | k + 1 => by
    simp only [ptrA, List.mem_append, ptrA_mem f a k, List.mem_singleton]
    constructor
    · rintro (⟨j, h1, h2⟩ | h)
      · exact ⟨j, by omega, h2⟩
      · exact ⟨k, by omega, h⟩
    · rintro ⟨j, h1, h2⟩
      by_cases e : j = k
      · subst e; exact .inr h2
      · exact .inl ⟨j, by omega, h2⟩
def dueA (R : Nat → Nat) (ph : Nat → Int) (x : Nat) : Nat → List Addr
  | 0 => []
  | k + 1 => if ph k = ph x then dueA R ph x k ++ [halfAt (R k) x (ph x - 1)] else dueA R ph x k
theorem dueL_eq (R : Nat → Nat) (ph : Nat → Int) (x : Nat) : ∀ k, dueL R ph x k = ptrV (dueA R ph x k)
  | 0 => rfl
  | k + 1 => by
    unfold dueL dueA
    rw [dueL_eq R ph x k]
    split <;> simp [ptrV]
theorem dueA_len (R : Nat → Nat) (ph : Nat → Int) (x : Nat) : ∀ k, (dueA R ph x k).length ≤ k
  | 0 => Nat.le_refl _
  | k + 1 => by
    have := dueA_len R ph x k
    unfold dueA
    split
    · simp; omega
    · omega
theorem dueA_mem (R : Nat → Nat) (ph : Nat → Int) (x : Nat) (a : Addr) : ∀ k, a ∈ dueA R ph x k ↔ ∃ j, j < k ∧ ph j = ph x ∧ a = halfAt (R j) x (ph x - 1)
  | 0 => ⟨fun h => by simp [dueA] at h, fun ⟨j, h, _⟩ => by omega⟩
  | k + 1 => by
    have ih := dueA_mem R ph x a k
    unfold dueA
    split
    · rename_i h0
      rw [List.mem_append, ih, List.mem_singleton]
      constructor
      · rintro (⟨j, h1, h2⟩ | h)
        · exact ⟨j, by omega, h2⟩
        · exact ⟨k, by omega, h0, h⟩
      · rintro ⟨j, h1, h2, h3⟩
        by_cases e : j = k
        · subst e; exact .inr h3
        · exact .inl ⟨j, by omega, h2, h3⟩
    · rename_i h0
      rw [ih]
      constructor
      · rintro ⟨j, h1, h2⟩
        exact ⟨j, by omega, h2⟩
      · rintro ⟨j, h1, h2, h3⟩
        by_cases e : j = k
        · subst e; exact absurd h2 h0
        · exact ⟨j, by omega, h2, h3⟩
theorem MP.half {W : World} {Fo : Nat → Option Obj} {base hb wb bb n : Nat} {room : Int} {cmp : Value} {R : Nat → Nat} {ph fl : Nat → Int} {H : Nat → Nat → Nat → Hf} (h : MP Fo W base hb wb bb n room cmp R ph fl H) {i j : Nat} (hi : i < n) (hj : j < n) (p : Int) : (halfAt (R i) j p).spot = none ∧ (∃ q l c, W.cell? (halfAt (R i) j p) = some (.slice q l c) ∧ l ≤ 1024) ∧ lenAt W (halfAt (R i) j p) = (H i j (par p)).l := by
  have hv := h.hv hi hj (k := par p) (by have := par_le p; omega)
  unfold halfAt
  refine ⟨rfl, ⟨_, _, _, hv, h.s i j _⟩, ?_⟩
  unfold lenAt
  rw [hv]
  rfl
/-- what Flip asks -/
def sentP (H : Nat → Nat → Nat → Hf) (n x : Nat) (p : Int) : Prop := ∃ j, j < n ∧ 0 < (H x j (par p)).l
def dueP (H : Nat → Nat → Nat → Hf) (ph : Nat → Int) (n x : Nat) : Prop := ∃ i, i < n ∧ ph i = ph x ∧ 0 < (H i x (par (ph x - 1))).l
theorem sent_pos {W : World} {Fo : Nat → Option Obj} {base hb wb bb n : Nat} {room : Int} {cmp : Value} {R : Nat → Nat} {ph fl : Nat → Int} {H : Nat → Nat → Nat → Hf} (h : MP Fo W base hb wb bb n room cmp R ph fl H) {x : Nat} (hx : x < n) (p : Int) : 0 < sm (lnL W (ptrA (fun j => halfAt (R x) j p) n)) (ptrA (fun j => halfAt (R x) j p) n).length ↔ sentP H n x p := by
  rw [lnL_pos]
  constructor
  · rintro ⟨a, h1, h2⟩
    obtain ⟨j, h3, rfl⟩ := (ptrA_mem _ _ _).1 h1
    rw [(h.half hx h3 p).2.2] at h2
    exact ⟨j, h3, h2⟩
  · rintro ⟨j, h1, h2⟩
    exact ⟨_, (ptrA_mem _ _ _).2 ⟨j, h1, rfl⟩, by rw [(h.half hx h1 p).2.2]; exact h2⟩
theorem due_pos {W : World} {Fo : Nat → Option Obj} {base hb wb bb n : Nat} {room : Int} {cmp : Value} {R : Nat → Nat} {ph fl : Nat → Int} {H : Nat → Nat → Nat → Hf} (h : MP Fo W base hb wb bb n room cmp R ph fl H) {x : Nat} (hx : x < n) : 0 < sm (lnL W (dueA R ph x n)) (dueA R ph x n).length ↔ dueP H ph n x := by
  rw [lnL_pos]
  constructor
  · rintro ⟨a, h1, h2⟩
    obtain ⟨j, h3, h4, rfl⟩ := (dueA_mem _ _ _ _ _).1 h1
    rw [(h.half h3 hx (ph x - 1)).2.2] at h2
    exact ⟨j, h3, h4, h2⟩
  · rintro ⟨j, h1, h4, h2⟩
    exact ⟨_, (dueA_mem _ _ _ _ _).2 ⟨j, h1, h4, rfl⟩, by rw [(h.half h1 hx (ph x - 1)).2.2]; exact h2⟩
set_option maxRecDepth 100000 in
set_option maxHeartbeats 4000000 in
/-- Flip of a worker -/
theorem flip_any (x : Nat) {Fo : Nat → Option Obj} {base hb wb bb n : Nat} {room : Int} {cmp : Value} {R : Nat → Nat} {ph fl : Nat → Int} {H : Nat → Nat → Nat → Hf} (hx : x < n) (hn : n ≤ 64) (hp : 0 ≤ ph x ∧ ph x < 4611686018427387904) (W : World) (h : MP Fo W base hb wb bb n room cmp R ph fl H) (hbase : base ≤ W.heap.size) :
    Calls Try.prog 16 #[.pointer (some ⟨hb, 0, none⟩), .int .i64 (x : Int)] W fun r W' => Below base W W' ∧ ((fl x ≠ 0 ∧ r = .returned (.int .i64 (fl x)) ∧ MP Fo W' base hb wb bb n room cmp R ph fl H) ∨ (fl x = 0 ∧ (Low ph n x ∨ sentP H n x (ph x - 1) ∨ dueP H ph n x) ∧ r = .returned (.int .i64 92) ∧ MP Fo W' base hb wb bb n room cmp R ph fl H) ∨ (fl x = 0 ∧ ¬ (Low ph n x ∨ sentP H n x (ph x - 1) ∨ dueP H ph n x) ∧ r = .returned (.int .i64 0) ∧ MP Fo W' base hb wb bb n room cmp R (fun i => if i = x then ph x + 1 else ph i) fl H)) := by
  have HE := err_yes hb wb bb n room x hx cmp ph fl W h.p h.wk
  by_cases hf : fl x = 0
  case neg =>
    have HM := mhid (And.intro h hf)
    have d0 : (fl x != 0) = true := by simp [hf]
    have d0b : (fl x == 0) = false := by simp [hf]
    clear h hf
    go_enter Try.func16, Try.ntmps16
    go_wp2_with (go_at_call 20; (with_reducible refine HE.mono ?_); rintro e w1 ⟨rfl, h9⟩; subst h9)
    go_ret
    exact ⟨Below.refl _ _, .inl ⟨HM.out.2, rfl, HM.out.1⟩⟩
  case pos =>
  rw [hf] at HE
  have HF := mhid hf
  have HLD := leads_any hb wb bb n room x hx hn cmp ph fl W h.p h.wk (Own.lt h.w wb rfl).2 (lt_of_block h.p)
  by_cases hl : Low ph n x
  · have HM := mhid (And.intro h hl)
    clear h hl hf
    go_enter Try.func16, Try.ntmps16
    go_wp2_with (first | (go_at_call 20; (with_reducible refine HE.mono ?_); rintro e w1 ⟨rfl, h9⟩; subst h9) | (go_at_call 33; (with_reducible refine HLD.mono ?_); rintro e w2 ⟨b2, rfl, h2, h3⟩; obtain rfl : b2 = true := h2.2 HM.out.2; have B2 := mhid h3; clear h2 h3))
    go_ret
    exact ⟨B2.out.mono hbase, .inr (.inl ⟨HF.out, .inl HM.out.2, rfl, HM.out.1.later B2.out⟩)⟩
  · have HNL := mhid hl
    have HH := mhid h
    obtain ⟨px, hpx⟩ : ∃ px, ph x = px := ⟨_, rfl⟩
    have ew : IntKind.i64.wrap (px - 1) = px - 1 := by rw [IntKind.wrap_i64]; omega
    have ew1 : IntKind.i64.wrap (px + 1) = px + 1 := by rw [IntKind.wrap_i64]; omega
    have x0 : (0 : Int) ≤ (x : Int) := by omega
    have x1 : (x : Int) < (n : Int) := by omega
    have HPX := mhid hpx
    have HPR := mhid hp
    have HS : Hid (∀ W2, MP Fo W2 base hb wb bb n room cmp R ph fl H → Calls Try.prog 35 #[.pointer (some ⟨hb, 0, none⟩), .int .i64 (x : Int), .int .i64 (px - 1)] W2 fun e W' => ∃ v, e = .returned v ∧ PR W2.heap.size W' v (ptrV (ptrA (fun j => halfAt (R x) j (px - 1)) n)) ∧ Below W2.heap.size W2 W') := fun W2 h2 => by
      rw [← ptrs_eq]
      exact sent_any hb wb bb n room x hx hn cmp R (px - 1) (by omega) W2 h2.bs
    have HD : Hid (∀ W2, MP Fo W2 base hb wb bb n room cmp R ph fl H → Calls Try.prog 36 #[.pointer (some ⟨hb, 0, none⟩), .int .i64 (x : Int)] W2 fun e W' => ∃ v, e = .returned v ∧ PR W2.heap.size W' v (ptrV (dueA R ph x n)) ∧ Below W2.heap.size W2 W') := fun W2 h2 => by
      rw [← dueL_eq]
      exact due_any hb wb bb n room x hx hn cmp R ph fl hp W2 h2.bs h2.wk (Own.lt h2.w wb rfl).2
    have HT1 : Hid (∀ W2 B v, MP Fo W2 base hb wb bb n room cmp R ph fl H → PR B W2 v (ptrV (ptrA (fun j => halfAt (R x) j (px - 1)) n)) → Calls Try.prog 34 #[v] W2 fun e W' => (∃ S : Nat, e = .returned (.int .i64 (S : Int)) ∧ (0 < S ↔ sentP H n x (ph x - 1))) ∧ W' = W2) := fun W2 B v h2 hp2 =>
      (total_list _ (by rw [ptrA_len]; exact hn) B v W2 hp2 (fun a ha => by
        obtain ⟨j, h3, rfl⟩ := (ptrA_mem _ _ _).1 ha
        exact ⟨(h2.half hx h3 _).1, (h2.half hx h3 _).2.1⟩)).mono fun e W' h3 => ⟨⟨_, h3.1, by rw [hpx]; exact sent_pos h2 hx (px - 1)⟩, h3.2⟩
    have HT2 : Hid (∀ W2 B v, MP Fo W2 base hb wb bb n room cmp R ph fl H → PR B W2 v (ptrV (dueA R ph x n)) → Calls Try.prog 34 #[v] W2 fun e W' => (∃ S : Nat, e = .returned (.int .i64 (S : Int)) ∧ (0 < S ↔ dueP H ph n x)) ∧ W' = W2) := fun W2 B v h2 hp2 =>
      (total_list _ (by have := dueA_len R ph x n; omega) B v W2 hp2 (fun a ha => by
        obtain ⟨j, h3, h4, rfl⟩ := (dueA_mem _ _ _ _ _).1 ha
        exact ⟨(h2.half h3 hx _).1, (h2.half h3 hx _).2.1⟩)).mono fun e W' h3 => ⟨⟨_, h3.1, due_pos h2 hx⟩, h3.2⟩
    clear h hl hf hpx hp
    go_enter Try.func16, Try.ntmps16
    go_upto_region 6 with (first | (go_at_call 20; (with_reducible refine HE.mono ?_); rintro e w1 ⟨rfl, h9⟩; subst h9) | (go_at_call 33; (with_reducible refine HLD.mono ?_); rintro e w2 ⟨b2, rfl, h2, h3⟩; obtain rfl : b2 = false := (by cases b2; rfl; exact absurd (h2.1 rfl) HNL.out); have B2 := mhid h3; clear h2 h3))
    have H2 := mhid (HH.out.later B2.out)
    obtain ⟨c0, c1, c2, c3⟩ := H2.out.p.cells
    obtain ⟨y0, y1⟩ := H2.out.wk x hx
    rw [HPX.out] at y0
    have HC1 := HS.out w2 H2.out
    clear HE HLD
    by_cases hse : sentP H n x (ph x - 1)
    · have HSE := mhid hse
      clear hse
      go_wp2_with (first | (go_at_call 35; (with_reducible refine HC1.mono ?_); rintro e w3 ⟨v3, rfl, p3, b3⟩; have HC2 := HT1.out w3 _ v3 (H2.out.later b3) p3; have B3 := mhid b3; clear p3 b3) | (go_at_call 34; (with_reducible refine HC2.mono ?_); rintro e w4 ⟨⟨S4, rfl, h4⟩, h5⟩; subst h5; have d4 : 0 < S4 := h4.2 HSE.out; clear h4))
      go_ret
      exact ⟨(B2.out.trans (B3.out.mono B2.out.size)).mono hbase, .inr (.inl ⟨HF.out, .inr (.inl HSE.out), rfl, H2.out.later B3.out⟩)⟩
    · have HSE := mhid hse
      clear hse
      have nf0 : Hid (∀ W2, MP Fo W2 base hb wb bb n room cmp R ph fl H → W2.frozen? ⟨wb, x * 2, none⟩ = false) := fun W2 h2 => by obtain ⟨cr, hcr, _⟩ := h2.w.block; exact frz hcr _
      by_cases hdu : dueP H ph n x
      · have HDU := mhid hdu
        clear hdu
        go_wp2_with (first | (go_at_call 35; (with_reducible refine HC1.mono ?_); rintro e w3 ⟨v3, rfl, p3, b3⟩; have H3 := mhid (H2.out.later b3); have HC2 := HT1.out w3 _ v3 H3.out p3; have HC3 := HD.out w3 H3.out; have B3 := mhid b3; clear p3 b3) | (go_at_call 34; (with_reducible refine HC2.mono ?_); rintro e w4 ⟨⟨S4, rfl, h4⟩, h5⟩; subst h5; obtain rfl : S4 = 0 := (by rcases Nat.eq_zero_or_pos S4 with h6 | h6; exact h6; exact absurd (h4.1 h6) HSE.out); clear h4 HC2) | (go_at_call 36; (with_reducible refine HC3.mono ?_); rintro e w5 ⟨v5, rfl, p5, b5⟩; have H5 := mhid (H3.out.later b5); have HC5 := HT2.out w5 _ v5 H5.out p5; have B5 := mhid b5; clear p5 b5) | (go_at_call 34; (with_reducible refine HC5.mono ?_); rintro e w6 ⟨⟨S6, rfl, h6⟩, h7⟩; subst h7; have d6 : 0 < S6 := h6.2 HDU.out; clear h6))
        go_ret
        exact ⟨((B2.out.trans (B3.out.mono B2.out.size)).trans (B5.out.mono (Nat.le_trans B2.out.size B3.out.size))).mono hbase, .inr (.inl ⟨HF.out, .inr (.inr HDU.out), rfl, H5.out⟩)⟩
      · have HDU := mhid hdu
        clear hdu
        go_upto_region 9 with (first | (go_at_call 35; (with_reducible refine HC1.mono ?_); rintro e w3 ⟨v3, rfl, p3, b3⟩; have H3 := mhid (H2.out.later b3); have HC2 := HT1.out w3 _ v3 H3.out p3; have HC3 := HD.out w3 H3.out; have B3 := mhid b3; clear p3 b3) | (go_at_call 34; (with_reducible refine HC2.mono ?_); rintro e w4 ⟨⟨S4, rfl, h4⟩, h5⟩; subst h5; obtain rfl : S4 = 0 := (by rcases Nat.eq_zero_or_pos S4 with h6 | h6; exact h6; exact absurd (h4.1 h6) HSE.out); clear h4 HC2) | (go_at_call 36; (with_reducible refine HC3.mono ?_); rintro e w5 ⟨v5, rfl, p5, b5⟩; have H5 := mhid (H3.out.later b5); have HC5 := HT2.out w5 _ v5 H5.out p5; have B5 := mhid b5; clear p5 b5) | (go_at_call 34; (with_reducible refine HC5.mono ?_); rintro e w6 ⟨⟨S6, rfl, h6⟩, h7⟩; subst h7; obtain rfl : S6 = 0 := (by rcases Nat.eq_zero_or_pos S6 with h8 | h8; exact h8; exact absurd (h6.1 h8) HDU.out); clear h6))
        clear c0 c1 c2 c3 y0 y1 HC1 HC3 HC5
        obtain ⟨c0, c1, c2, c3⟩ := H5.out.p.cells
        obtain ⟨y0, y1⟩ := H5.out.wk x hx
        have nf := nf0.out _ H5.out
        rw [HPX.out] at y0
        have HM := mhid (H5.out.setW x hx 0 (by decide) (px + 1))
        have HBM := mhid ((((B2.out.trans (B3.out.mono B2.out.size)).trans (B5.out.mono (Nat.le_trans B2.out.size B3.out.size))).mono hbase).setCell (p := ⟨wb, x * 2 + 0, none⟩) (Own.lt H5.out.w wb rfl).1 (.int .i64 (px + 1)))
        go_wp2_with fail
        go_ret
        refine ⟨HBM.out, .inr (.inr ⟨HF.out, ?_, rfl, ?_⟩)⟩
        · first | exact ⟨HNL.out, HSE.out, HDU.out⟩ | exact fun h9 => h9.elim HNL.out fun h9 => h9.elim HSE.out HDU.out
        · have := HM.out
          simp only [if_true] at this
          rw [HPX.out]
          exact this
end Go.Proofs.Ytkfjcbnhohipgaa
