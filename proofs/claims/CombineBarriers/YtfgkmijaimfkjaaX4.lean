import Derived.Test.YtfgkmijaimfkjaaX3
import Derived.Maps.AppendAt
namespace Go.Proofs.Ytfgkmijaimfkjaa
open Go.ChangeShapes Go.WideShapes Go.ChangeAt Go.RowKit
set_option linter.unusedVariables false
set_option linter.unusedSimpArgs false
variable {base n kd : Nat} {B : RB} {R : Rt}

/-- the steps of a round, from a place on -/
def tdl (n w p : Nat) : List Nat := (if p ≤ 1 ∧ 2 * w + 1 < n then [1] else []) ++ (if p ≤ 2 ∧ 2 * w + 2 < n then [2] else []) ++ (if p ≤ 3 ∧ 0 < w then [3] else []) ++ (if p ≤ 4 ∧ 0 < w then [4] else []) ++ [5]
def stL (l : List Nat) : List Value := l.map fun (k : Nat) => Value.int .i64 (k : Int)
theorem infoI : (Try.prog.info? 3).map (fun i => (i.zero, i.size, i.bytes)) = some (some (.int .i64 0), 1, 8) := by kernel_rfl
/-- a list that is being made -/
def OL (W : World) (g : Nat) (v : Value) (l : List Nat) : Prop := W.ownsRow g 3 1 v l.length (stL l)
theorem tl_of {W : World} {g gb : Nat} {v : Value} {l : List Nat} (h : OL W g v l) (hg : gb < g) (hb : base ≤ g) : TL W base gb v l := by
  have ho : Own W g 3 1 v l.length (fun j => (stL l).getD j undef) := own_of_row h
  rcases Own.form ho with ⟨h1, h2⟩ | ⟨b, c, rfl, h2, h3⟩
  · exact ⟨none, 0, by rw [h1, h2], by omega, fun hne => absurd (List.length_eq_zero_iff.1 h2) hne⟩
  · obtain ⟨cur, a1, a2, a3, a4, a5, a6⟩ := Own.block ho
    refine ⟨_, c, rfl, a3, fun _ => ⟨b, 0, cur, rfl, by omega, by omega, a1, fun i hi => ?_⟩⟩
    rw [Nat.zero_add, a6 i (by omega)]
    unfold stL
    simp [List.getD_eq_getElem?_getD, hi]
def rentE (n : Nat) (R : Rt) (x : Int) : Int := if inN n x = true then (if (R.td x.toNat).length = 0 then 0 else 101) else 91
def rentN (n : Nat) (R : Rt) (x v : Int) (t : Value) : Rt := if inN n x = true ∧ (R.td x.toNat).length = 0 then { R with tv := setF R.tv x.toNat t, td := setF R.td x.toNat (tdl n x.toNat 1), hs := setF R.hs x.toNat v } else R
theorem OL.later {W W' : World} {g : Nat} {v : Value} {l : List Nat} (h : OL W g v l) (hb : Below W.heap.size W W') : OL W' g v l := by
  have ho : Own W g 3 1 v l.length (fun j => (stL l).getD j undef) := own_of_row h
  have h2 := ho.later hb
  unfold Own at h2
  unfold OL
  have e : cellsF (fun j => (stL l).getD j undef) (l.length * 1) = stL l := by
    refine List.ext_getElem? fun i => ?_
    unfold cellsF
    by_cases hi : i < l.length
    · simp [hi, stL, List.getD_eq_getElem?_getD]
    · simp [hi, stL]
  rw [e] at h2
  exact h2
def L1 (n w : Nat) : List Nat := if 2 * w + 1 < n then [1] else []
def L2 (n w : Nat) : List Nat := L1 n w ++ (if 2 * w + 2 < n then [2] else [])
def L3 (n w : Nat) : List Nat := L2 n w ++ (if 0 < w then [3, 4] else [])
theorem L4 (n w : Nat) : L3 n w ++ [5] = tdl n w 1 := by
  unfold L3 L2 L1 tdl
  by_cases h1 : 2 * w + 1 < n <;> by_cases h2 : 2 * w + 2 < n <;> by_cases h3 : 0 < w <;> simp [h1, h2, h3]
theorem len3 (n w : Nat) : (L1 n w).length ≤ 1 ∧ (L2 n w).length ≤ 2 ∧ (L3 n w).length ≤ 4 := by
  unfold L3 L2 L1
  by_cases h1 : 2 * w + 1 < n <;> by_cases h2 : 2 * w + 2 < n <;> by_cases h3 : 0 < w <;> simp [h1, h2, h3]
set_option maxRecDepth 100000 in
theorem renter_no (x v : Int) (W : World) (h : RN base n kd B R W) (hno : ¬ (inN n x = true ∧ (R.td x.toNat).length = 0)) : Calls Try.prog 27 #[.pointer (some ⟨B.rb, 0, none⟩), .int .i64 x, rvA v] W fun e W' => e = .returned (.int .i64 (rentE n R x)) ∧ Below W.heap.size W W' := by
  obtain ⟨⟨c0, c1, c2, c3⟩, ⟨c4, c5, c6⟩, c7, c8, c9⟩ := h.cells
  obtain ⟨⟨l0, l1, l2, l3⟩, l4, l5, l6, l7, l8⟩ := h.lt
  have HK := fun o => ris_any x (W.alloc o) (h.later ((Below.refl _ W).alloc (Nat.le_refl _) o))
  unfold rentE rvA
  by_cases hx : inN n x = true
  · obtain ⟨w, hw, rfl⟩ := inN_get hx
    obtain ⟨p, c, _, _, k1, _⟩ := h.tdv hw
    have i0 : (0 : Int) ≤ (w : Int) := by omega
    have i1 : (w : Int) < (n : Int) := by omega
    simp only [hx] at HK ⊢
    simp only [hx, true_and, Int.toNat_natCast] at hno
    simp only [Int.toNat_natCast, if_true, hno, if_false]
    generalize (R.td w).length = r at *
    have hr : decide ((0 : Int) < (r : Int)) = true := by simp; omega
    have hr2 : decide (0 < r) = true := by simp; omega
    go_enter Try.func27, Try.ntmps27
    go_wp2_with (go_at_call 63; (with_reducible refine (HK _).mono ?_); rintro e w1 ⟨rfl, h9⟩; subst h9)
    go_ret
    exact ⟨rfl, (Below.refl _ W).alloc (Nat.le_refl _) _⟩
  · rw [Bool.not_eq_true] at hx
    simp only [hx] at HK ⊢
    simp only [Bool.false_eq_true, if_false]
    go_enter Try.func27, Try.ntmps27
    go_wp2_with (go_at_call 63; (with_reducible refine (HK _).mono ?_); rintro e w1 ⟨rfl, h9⟩; subst h9)
    go_ret
    exact ⟨rfl, (Below.refl _ W).alloc (Nat.le_refl _) _⟩
def AZ (W1 : World) (u : Value) (L : List Nat) (W : World) : Prop := OL W W1.heap.size u L ∧ Below W1.heap.size W1 W
theorem stL_app (a b : List Nat) : stL a ++ stL b = stL (a ++ b) := by simp [stL]
theorem AZ.app {W1 wa w9 : World} {u v9 : Value} {L : List Nat} (K : List Nat) (ho : OL wa W1.heap.size u L) (hb : Below W1.heap.size W1 wa) (h9 : w9.ownsRow W1.heap.size 3 1 v9 (L.length + K.length) (stL L ++ stL K)) (hg : wa.grownBy w9 u.ownBlock) : AZ W1 v9 (L ++ K) w9 := by
  refine ⟨?_, hb.grown hg hb.size (fun r' e => (Own.lt (F := fun j => (stL L).getD j undef) (own_of_row ho) r' e).1)⟩
  unfold OL
  rw [List.length_append, ← stL_app]
  exact h9
theorem AZ.alloc {W1 W : World} {u : Value} {L : List Nat} (h : AZ W1 u L W) (o : Obj) : AZ W1 u L (W.alloc o) := by
  have hb : Below W.heap.size W (W.alloc o) := (Below.refl _ W).alloc (Nat.le_refl _) o
  exact ⟨h.1.later hb, h.2.trans (hb.mono h.2.size)⟩
set_option maxRecDepth 100000 in
set_option maxHeartbeats 2000000 in
theorem renter_yes (w : Nat) (hw : w < n) (hn : n ≤ 64) (v : Int) (W : World) (h : RN base n kd B R W) (hbs : base ≤ W.heap.size) (hyes : (R.td w).length = 0) : Calls Try.prog 27 #[.pointer (some ⟨B.rb, 0, none⟩), .int .i64 (w : Int), rvA v] W fun e W' => e = .returned (.int .i64 0) ∧ ∃ t, RC W base n kd B (rentN n R (w : Int) v t) W' := by
  obtain ⟨⟨c0, c1, c2, c3⟩, ⟨c4, c5, c6⟩, c7, c8, c9⟩ := h.cells
  obtain ⟨⟨l0, l1, l2, l3⟩, l4, l5, l6, l7, l8⟩ := h.lt
  have hx : inN n (w : Int) = true := by rw [inN_nat]; simpa using hw
  have HK := fun o => ris_any (w : Int) (W.alloc o) (h.later ((Below.refl _ W).alloc (Nat.le_refl _) o))
  simp only [hx] at HK
  obtain ⟨p, c, _, _, k1, _⟩ := h.tdv hw
  rw [hyes] at k1
  have i0 : (0 : Int) ≤ (w : Int) := by omega
  have i1 : (w : Int) < (n : Int) := by omega
  have e1 : IntKind.i64.wrap (2 * (w : Int)) = 2 * (w : Int) := by rw [IntKind.wrap_i64]; omega
  have e2 : IntKind.i64.wrap (2 * (w : Int) + 1) = ((2 * w + 1 : Nat) : Int) := by rw [IntKind.wrap_i64]; omega
  have e3 : IntKind.i64.wrap (2 * (w : Int) + 2) = ((2 * w + 2 : Nat) : Int) := by rw [IntKind.wrap_i64]; omega
  generalize hy1 : ((2 * w + 1 : Nat) : Int) = y1 at *
  generalize hy2 : ((2 * w + 2 : Nat) : Int) = y2 at *
  have hi1 : inN n y1 = decide (2 * w + 1 < n) := by rw [← hy1, inN_nat]
  have hi2 : inN n y2 = decide (2 * w + 2 < n) := by rw [← hy2, inN_nat]
  obtain ⟨q1, hq1⟩ : ∃ q, inN n y1 = q := ⟨_, rfl⟩
  obtain ⟨q2, hq2⟩ : ∃ q, inN n y2 = q := ⟨_, rfl⟩
  obtain ⟨q3, hq3⟩ : ∃ q, decide ((0 : Int) < (w : Int)) = q := ⟨_, rfl⟩
  have hq4 : decide (0 < w) = q3 := by rw [← hq3]; by_cases e : 0 < w <;> simp [e]
  have HI : Hid (q1 = decide (2 * w + 1 < n) ∧ q2 = decide (2 * w + 2 < n) ∧ inN n (w : Int) = true ∧ (R.td w).length = 0 ∧ q3 = decide (0 < w)) := ⟨hq1.symm.trans hi1, hq2.symm.trans hi2, hx, hyes, hq4.symm⟩
  obtain ⟨iI, hI1, hI2, hI3, hI4⟩ := binfo infoI
  have HL := len3 n w
  have HW : Hid (RN base n kd B R W) := h
  obtain ⟨g, hg⟩ : ∃ g, W.heap.size = g := ⟨_, rfl⟩
  have HG : Hid (W.heap.size = g) := hg
  obtain ⟨W1, hW1⟩ : ∃ W1, W.alloc (.cells #[.int .i64 v, .int .u64 0, .bool false, .bool false, .bool false, .int .u64 0, .int .i64 0, .int .u64 0, .int .i64 0, .int .i64 0] 62) = W1 := ⟨_, rfl⟩
  have HB1 : Hid (Below g W W1) := by rw [← hW1, ← hg]; exact (Below.refl _ W).alloc (Nat.le_refl _) _
  have HC1 : Hid (W1.heap[g]? = some (.cells #[.int .i64 v, .int .u64 0, .bool false, .bool false, .bool false, .int .u64 0, .int .i64 0, .int .u64 0, .int .i64 0, .int .i64 0] 62 (0, 0)) ∧ W1.heap.size = g + 1) := by rw [← hW1, ← hg]; exact ⟨World.alloc_heap_new W _, World.size_alloc _ _⟩
  have HW1 : Hid (W.alloc (.cells #[.int .i64 v, .int .u64 0, .bool false, .bool false, .bool false, .int .u64 0, .int .i64 0, .int .u64 0, .int .i64 0, .int .i64 0] 62) = W1) := hW1
  have HQ1 := ris_any y1 W1 (HW.out.later (by have := HB1.out; rw [← HG.out] at this; exact this))
  have HQ2 := fun W2 (hb : Below W1.heap.size W1 W2) => ris_any y2 W2 ((HW.out.later (by have := HB1.out; rw [← HG.out] at this; exact this)).later hb)
  rw [hq1] at HQ1
  simp only [hq2] at HQ2
  clear h hx hyes hy1 hy2 hi1 hi2 hW1 hg hq1 hq2
  unfold rvA
  go_enter Try.func27, Try.ntmps27
  go_upto_region 5 with (go_at_call 63; (with_reducible refine (HK _).mono ?_); rintro e w1 ⟨rfl, h9⟩; subst h9)
  rw [HW1.out, HG.out]
  have HZ : Hid (AZ W1 (.slice none 0 0) [] W1) := ⟨World.ownsRow_nil _ _ _ _, Below.refl _ _⟩
  go_upto_if 25 with (go_at_call 63; (with_reducible refine HQ1.mono ?_); rintro e w1 ⟨rfl, h9⟩; have h8 := h9.symm; subst h8; clear h9)
  go_cut [7] (fun u wc => AZ W1 u (L1 n w) wc)
  case first =>
    cases q1
    case true =>
      have h1 : 2 * w + 1 < n := by have := HI.out.1; simpa using this
      have HA : Hid (AZ W1 (.slice none 0 0) ([]) (W1.alloc (.cells #[.int .i64 1] 3))) := HZ.out.alloc _
      have HN : Hid (∀ j y, ([.int .i64 1] : List Value)[j]? = some y → (W1.alloc (.cells #[.int .i64 1] 3)).cell? ((⟨W1.heap.size, 0, none⟩ : Addr).add j) = some y) := cells_new9 W1 [.int .i64 1] _
      have p1 : ([] : List Nat).length + 1 ≤ maxLen := by simp [maxLen]
      have p2 : (([] : List Nat).length + 1) * 8 ≤ 140737488355328 := by simp
      go_wp2_with (at_builtin; refine wpList_append_own_at _ rfl _ _ 56 rfl W1.heap.size 3 iI _ 1 8 Try.underlying56 hI1 hI2 hI3 hI4 rfl (by decide) _ _ _ rfl HA.out.1 ⟨W1.heap.size, 0, none⟩ 1 1 [.int .i64 1] rfl rfl HN.out (by simp [Value.oneCell']) p1 p2 HA.out.2.size ?_; intro v9 w9 hown9 hgrow9 _ _; have HA9 : Hid (AZ W1 v9 (([] : List Nat) ++ [1]) w9) := AZ.app [1] HA.out.1 HA.out.2 hown9 hgrow9; clear hown9 hgrow9)
      go_meet
      unfold L1
      rw [if_pos h1]
      exact HA9.out
    case false =>
      have h1 : ¬ 2 * w + 1 < n := by have := HI.out.1; simpa using this
      go_wp2_with fail
      go_meet
      unfold L1
      rw [if_neg h1]
      exact HZ.out
  case rest =>
    have HZ2 : Hid (AZ W1 u7 (L1 n w) wc) := hcut
    clear HZ hcut HQ1
    have HZ := HZ2
    clear HZ2
    have HQ2' := HQ2 wc HZ.out.2
    go_upto_if 33 with (go_at_call 63; (with_reducible refine HQ2'.mono ?_); rintro e w1 ⟨rfl, h9⟩; have h8 := h9.symm; subst h8; clear h9)
    go_cut [7] (fun u wc => AZ W1 u (L2 n w) wc)
    case first =>
      cases q2
      case true =>
        have h1 : 2 * w + 2 < n := by have := HI.out.2.1; simpa using this
        have HA : Hid (AZ W1 u7 (L1 n w) (wc.alloc (.cells #[.int .i64 2] 3))) := HZ.out.alloc _
        have HN : Hid (∀ j y, ([.int .i64 2] : List Value)[j]? = some y → (wc.alloc (.cells #[.int .i64 2] 3)).cell? ((⟨wc.heap.size, 0, none⟩ : Addr).add j) = some y) := cells_new9 wc [.int .i64 2] _
        have p1 : (L1 n w).length + 1 ≤ maxLen := by have := HL; unfold maxLen; omega
        have p2 : ((L1 n w).length + 1) * 8 ≤ 140737488355328 := by have := HL; omega
        go_wp2_with (at_builtin; refine wpList_append_own_at _ rfl _ _ 56 rfl W1.heap.size 3 iI _ 1 8 Try.underlying56 hI1 hI2 hI3 hI4 rfl (by decide) _ _ _ rfl HA.out.1 ⟨wc.heap.size, 0, none⟩ 1 1 [.int .i64 2] rfl rfl HN.out (by simp [Value.oneCell']) p1 p2 HA.out.2.size ?_; intro v9 w9 hown9 hgrow9 _ _; have HA9 : Hid (AZ W1 v9 ((L1 n w) ++ [2]) w9) := AZ.app [2] HA.out.1 HA.out.2 hown9 hgrow9; clear hown9 hgrow9)
        go_meet
        unfold L2
        rw [if_pos h1]
        exact HA9.out
      case false =>
        have h1 : ¬ 2 * w + 2 < n := by have := HI.out.2.1; simpa using this
        go_wp2_with fail
        go_meet
        unfold L2
        rw [if_neg h1, List.append_nil]
        exact HZ.out
    case rest =>
      have HZ2 : Hid (AZ W1 u7 (L2 n w) wc) := hcut
      clear HZ hcut HQ2 HQ2'
      have HZ := HZ2
      clear HZ2
      go_upto_if 38 with fail
      go_cut [7] (fun u wc => AZ W1 u (L3 n w) wc)
      case first =>
        cases q3
        case true =>
          have h1 : 0 < w := by have := HI.out.2.2.2.2; simpa using this
          have HA : Hid (AZ W1 u7 (L2 n w) (wc.alloc (.cells #[.int .i64 3, .int .i64 4] 3))) := HZ.out.alloc _
          have HN : Hid (∀ j y, ([.int .i64 3, .int .i64 4] : List Value)[j]? = some y → (wc.alloc (.cells #[.int .i64 3, .int .i64 4] 3)).cell? ((⟨wc.heap.size, 0, none⟩ : Addr).add j) = some y) := cells_new9 wc [.int .i64 3, .int .i64 4] _
          have p1 : (L2 n w).length + 2 ≤ maxLen := by have := HL; unfold maxLen; omega
          have p2 : ((L2 n w).length + 2) * 8 ≤ 140737488355328 := by have := HL; omega
          go_wp2_with (at_builtin; refine wpList_append_own_at _ rfl _ _ 56 rfl W1.heap.size 3 iI _ 1 8 Try.underlying56 hI1 hI2 hI3 hI4 rfl (by decide) _ _ _ rfl HA.out.1 ⟨wc.heap.size, 0, none⟩ 2 2 [.int .i64 3, .int .i64 4] rfl rfl HN.out (by simp [Value.oneCell']) p1 p2 HA.out.2.size ?_; intro v9 w9 hown9 hgrow9 _ _; have HA9 : Hid (AZ W1 v9 ((L2 n w) ++ [3, 4]) w9) := AZ.app [3, 4] HA.out.1 HA.out.2 hown9 hgrow9; clear hown9 hgrow9)
          go_meet
          unfold L3
          rw [if_pos h1]
          exact HA9.out
        case false =>
          have h1 : ¬ 0 < w := by have := HI.out.2.2.2.2; simpa using this
          go_wp2_with fail
          go_meet
          unfold L3
          rw [if_neg h1, List.append_nil]
          exact HZ.out
      case rest =>
        have HZ2 : Hid (AZ W1 u7 (L3 n w) wc) := hcut
        clear HZ hcut
        have HZ := HZ2
        clear HZ2
        have HA : Hid (AZ W1 u7 (L3 n w) (wc.alloc (.cells #[.int .i64 5] 3))) := HZ.out.alloc _
        have HN : Hid (∀ j y, ([.int .i64 5] : List Value)[j]? = some y → (wc.alloc (.cells #[.int .i64 5] 3)).cell? ((⟨wc.heap.size, 0, none⟩ : Addr).add j) = some y) := cells_new9 wc [.int .i64 5] _
        have p1 : (L3 n w).length + 1 ≤ maxLen := by have := HL; unfold maxLen; omega
        have p2 : ((L3 n w).length + 1) * 8 ≤ 140737488355328 := by have := HL; omega
        go_upto_region 13 with (at_builtin; refine wpList_append_own_at _ rfl _ _ 56 rfl W1.heap.size 3 iI _ 1 8 Try.underlying56 hI1 hI2 hI3 hI4 rfl (by decide) _ _ _ rfl HA.out.1 ⟨wc.heap.size, 0, none⟩ 1 1 [.int .i64 5] rfl rfl HN.out (by simp [Value.oneCell']) p1 p2 HA.out.2.size ?_; intro v9 w9 hown9 hgrow9 _ _; have HA9 : Hid (AZ W1 v9 ((L3 n w) ++ [5]) w9) := AZ.app [5] HA.out.1 HA.out.2 hown9 hgrow9; clear hown9 hgrow9)
        have hA9 := HA9.out
        rw [L4] at hA9
        obtain ⟨b9, cc9, hv9⟩ : ∃ b c, v9 = .slice (some ⟨b, 0, none⟩) (tdl n w 1).length c := by
          rcases Own.form (F := fun j => (stL (tdl n w 1)).getD j undef) (own_of_row hA9.1) with ⟨_, h2⟩ | ⟨b, c, h2, _⟩
          · exact absurd h2 (by simp [tdl])
          · exact ⟨b, c, h2⟩
        clear HA9
        subst hv9
        have h9 := (HW.out.later (by have := HB1.out; rw [← HG.out] at this; exact this)).later hA9.2
        obtain ⟨⟨c0, c1, c2, c3⟩, ⟨c4, c5, c6⟩, c7, c8, c9⟩ := h9.cells
        obtain ⟨⟨l0, l1, l2, l3⟩, l4, l5, l6, l7, l8⟩ := h9.lt
        have k1 := Own.cell h9.td (j := w) (by omega)
        obtain ⟨⟨t0, t1, t2, t3, t4⟩, t5, t6, t7, t8, t9⟩ := own_ten h9.hs hw
        have ft := own_frozen h9.td
        have fh := own_frozen h9.hs
        have hgx : w9.heap[g]? = some (.cells #[.int .i64 v, .int .u64 0, .bool false, .bool false, .bool false, .int .u64 0, .int .i64 0, .int .u64 0, .int .i64 0, .int .i64 0] 62 (0, 0)) := (hA9.2.block g (by have := HC1.out.2; omega)).trans HC1.out.1
        have xg : ∀ r y, (#[.int .i64 v, .int .u64 0, .bool false, .bool false, .bool false, .int .u64 0, .int .i64 0, .int .u64 0, .int .i64 0, .int .i64 0] : Array Value)[r]? = some y → w9.cell? ⟨g, r, none⟩ = some y := fun r y hy => by unfold World.cell?; rw [hgx]; exact hy
        have x0 := xg 0 _ rfl
        have x1 := xg 1 _ rfl
        have x2 := xg 2 _ rfl
        have x3 := xg 3 _ rfl
        have x4 := xg 4 _ rfl
        have x5 := xg 5 _ rfl
        have x6 := xg 6 _ rfl
        have x7 := xg 7 _ rfl
        have x8 := xg 8 _ rfl
        have x9 := xg 9 _ rfl
        have m1 : B.tb ≠ B.hb := own_ne h9.td h9.hs (by decide)
        have m2 : B.tb ≠ B.rb := by obtain ⟨_, hq⟩ := own_typ h9.td; exact typ_ne hq h9.box (by decide)
        have m3 : B.hb ≠ B.rb := by obtain ⟨_, hq⟩ := own_typ h9.hs; exact typ_ne hq h9.box (by decide)
        have m4 : B.tb ≠ g := by obtain ⟨_, hq⟩ := own_typ h9.td; exact typ_ne hq hgx (by decide)
        have H9 : Hid (RN base n kd B R w9 ∧ AZ W1 (.slice (some ⟨b9, 0, none⟩) (tdl n w 1).length cc9) (tdl n w 1) w9) := ⟨h9, hA9⟩
        have HGB : Hid (B.gb < W1.heap.size ∧ base ≤ W1.heap.size) := by have h1 := HG.out; have h2 := HC1.out.2; have h3 := HW.out.lt.2.2.2.2.2; exact ⟨by omega, by omega⟩
        have HB0 : Hid (Below W.heap.size W w9) := by have h1 := HB1.out; have h2 := HG.out; have h3 := HC1.out.2; rw [← h2] at h1; exact h1.trans (hA9.2.mono (by omega))
        clear h9 hA9 hgx xg HZ HA HN
        go_wp2_with fail
        go_region
        all_goals (
          go_wp2_with fail
          go_ret
          refine ⟨rfl, .slice (some ⟨b9, 0, none⟩) (tdl n w 1).length cc9, ?_⟩
          have hz := (((RC.start H9.out.1).set_td w _ (tdl n w 1) (tl_of H9.out.2.1 HGB.out.1 HGB.out.2)).set_hs w v).drew
          unfold rentN
          rw [Int.toNat_natCast, if_pos ⟨HI.out.2.2.1, HI.out.2.2.2.1⟩]
          have hz2 := (Ch.below HB0.out).trans hz.2
          exact ⟨hz.1, hz2⟩)
end Go.Proofs.Ytfgkmijaimfkjaa
