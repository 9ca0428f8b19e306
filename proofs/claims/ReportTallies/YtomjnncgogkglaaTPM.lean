import Derived.Test.YtomjnncgogkglaaTP1
namespace Go.Proofs.Ytomjnncgogkglaa
open Go.ChangeShapes Go.WideShapes Go.ChangeAt Go.RowKit
set_option linter.unusedVariables false
set_option linter.unusedSimpArgs false

/-- the events of a part, in their order -/
def hp (part : Int) (X : Nat → Se) : Nat → List Se
  | 0 => []
  | n + 1 => if (X n).d = part then hp part X n ++ [X n] else hp part X n
theorem hp_len (part : Int) (X : Nat → Se) (n : Nat) : (hp part X n).length ≤ n := by
  induction n with
  | zero => exact Nat.le_refl _
  | succ n ih =>
    unfold hp
    split
    · simp; exact ih
    · omega
theorem hp_yes {part : Int} {X : Nat → Se} {n : Nat} (h : (X n).d = part) : hp part X (n + 1) = hp part X n ++ [X n] := by show (if _ then _ else _) = _; rw [if_pos h]
theorem hp_no {part : Int} {X : Nat → Se} {n : Nat} (h : (X n).d ≠ part) : hp part X (n + 1) = hp part X n := by show (if _ then _ else _) = _; rw [if_neg h]
theorem fm_at (f : Se → List Value) (s : Nat) (hs : ∀ e, (f e).length = s) : ∀ (l : List Se) (j r : Nat) (e : Se), r < s → l[j]? = some e → (l.flatMap f)[j * s + r]? = (f e)[r]?
  | [], j, r, e, _, h => by simp at h
  | a :: l, 0, r, e, hr, h => by
    simp at h
    subst h
    simp only [List.flatMap_cons, Nat.zero_mul, Nat.zero_add]
    rw [List.getElem?_append_left (by rw [hs]; exact hr)]
  | a :: l, j + 1, r, e, hr, h => by
    simp at h
    simp only [List.flatMap_cons]
    rw [List.getElem?_append_right (by rw [hs, Nat.add_mul]; omega), hs, Nat.add_mul, show j * s + 1 * s + r - s = j * s + r by omega]
    exact fm_at f s hs l j r e hr h
theorem fm_snoc (f : Se → List Value) (l : List Se) (e : Se) : (l ++ [e]).flatMap f = l.flatMap f ++ f e := by simp
theorem row_cell {W : World} {base : Nat} {t : TypeId} {s g m c : Nat} {xs : List Value} (h : W.ownsRow base t s (.slice (some ⟨g, 0, none⟩) m c) m xs) {j : Nat} {u : Value} (hj : xs[j]? = some u) : W.cell? ⟨g, j, none⟩ = some u := by
  have := h.cells (g := g) rfl j _ hj
  rw [addr_add0, Nat.zero_add] at this
  exact this
theorem row_form {W : World} {base : Nat} {t : TypeId} {s m : Nat} {v : Value} {xs : List Value} (h : W.ownsRow base t s v m xs) : (v = .slice none 0 0 ∧ m = 0) ∨ ∃ g c, v = .slice (some ⟨g, 0, none⟩) m c ∧ base ≤ g ∧ g < W.heap.size := (own_of h).form
def tmL (e : Se) : List Value := [.int .u64 e.t]
theorem infoU8 : (Try.prog.info? 23).map (fun i => (i.zero, i.size, i.bytes)) = some (some (.int .u64 0), 1, 8) := by kernel_rfl
set_option maxRecDepth 100000 in
set_option maxHeartbeats 4000000 in
theorem timesOf_any (p : Option Addr) (n c : Nat) (X : Nat → Se) (part : Int) (hn : n ≤ 2932031007402) (w : World) (h : SIn w p n X) :
    Calls Try.prog 31 #[.slice p n c, .int .i64 part] w fun e w' => ∃ v, e = .returned v ∧ w'.ownsRow w.heap.size 23 1 v (hp part X n).length ((hp part X n).flatMap tmL) ∧ Below w.heap.size w w' := by
  obtain ⟨iA, hA1, hA2, hA3, hA4⟩ := sinfo infoU8
  have HS : Hid (SIn w p n X) := h
  clear h
  go_enter Try.func31, Try.ntmps31
  go_wp2_with fail
  go_loopw [5, 10] (fun r x wr => ∃ i : Nat, x = .int .i64 (i : Int) ∧ i ≤ n ∧ wr.ownsRow w.heap.size 23 1 r (hp part X i).length ((hp part X i).flatMap tmL) ∧ Below w.heap.size w wr) (fun _ x _ => n - (intOf x).toNat)
  case atStart => exact ⟨0, rfl, Nat.zero_le _, World.ownsRow_nil _ _ _ _, Below.refl _ _⟩
  case round =>
    obtain ⟨i, rfl, hi, hst, hb⟩ := hrel
    by_cases hlt : i < n
    case pos =>
      have dlt : decide ((i : Int) < (n : Int)) = true := by simp; omega
      have i0 : (0 : Int) ≤ (i : Int) := by omega
      have i1 : (i : Int) < (n : Int) := by omega
      have ei : IntKind.i64.wrap ((i : Int) + 1) = (i : Int) + 1 := by rw [IntKind.wrap_i64]; omega
      have hme := meas hlt
      obtain ⟨g, o, rfl, hg, x0, x1, x2, x3, x4, x5⟩ := (HS.out.below hb).at hlt
      have HA : Hid (wr.ownsRow w.heap.size 23 1 u5 (hp part X i).length ((hp part X i).flatMap tmL) ∧ Below w.heap.size w wr) := ⟨hst, hb⟩
      have hl9 := hp_len part X i
      have p1 : (hp part X i).length + 1 ≤ maxLen := by unfold maxLen; omega
      have p2 : ((hp part X i).length + 1) * 8 ≤ 140737488355328 := by omega
      clear hst hb hl9
      by_cases he : (X i).d = part
      · have dn : ((X i).d == part) = true := by simpa using he
        have HE : Hid ((X i).d = part) := he
        have HQ : Hid (((wr.alloc (.cells #[.int .u64 (X i).t, .int .i64 (X i).s, .int .u64 (X i).q, .int .i64 (X i).d, .int .i64 (X i).k, .int .i64 (X i).v] 67)).alloc (.cells #[.int .u64 (X i).t] 23)).ownsRow w.heap.size 23 1 u5 (hp part X i).length ((hp part X i).flatMap tmL) ∧ (∀ j y, (tmL (X i))[j]? = some y → ((wr.alloc (.cells #[.int .u64 (X i).t, .int .i64 (X i).s, .int .u64 (X i).q, .int .i64 (X i).d, .int .i64 (X i).k, .int .i64 (X i).v] 67)).alloc (.cells #[.int .u64 (X i).t] 23)).cell? ((⟨wr.heap.size + 1, 0, none⟩ : Addr).add j) = some y) ∧ Below w.heap.size w ((wr.alloc (.cells #[.int .u64 (X i).t, .int .i64 (X i).s, .int .u64 (X i).q, .int .i64 (X i).d, .int .i64 (X i).k, .int .i64 (X i).v] 67)).alloc (.cells #[.int .u64 (X i).t] 23))) :=
          ⟨World.ownsRow.alloc (World.ownsRow.alloc HA.out.1 _) _, (by have h9 := scells_new (wr.alloc (.cells #[.int .u64 (X i).t, .int .i64 (X i).s, .int .u64 (X i).q, .int .i64 (X i).d, .int .i64 (X i).k, .int .i64 (X i).v] 67)) (tmL (X i)) 23; rwa [World.size_alloc] at h9), (HA.out.2.alloc HA.out.2.size _).alloc (by rw [World.size_alloc]; exact Nat.le_succ_of_le HA.out.2.size) _⟩
        clear he
        go_wp2_with (at_builtin; refine wpList_append_own_at _ rfl _ _ 76 rfl w.heap.size 23 iA _ 1 8 Try.underlying76 hA1 hA2 hA3 hA4 rfl (by decide) _ _ _ rfl HQ.out.1 ⟨wr.heap.size + 1, 0, none⟩ 1 1 (tmL (X i)) rfl rfl HQ.out.2.1 (by simp [tmL, Value.oneCell']) p1 p2 HQ.out.2.2.size ?_; intro v' w9 hown9 hgrow9 _ _)
        obtain ⟨b1, b2, b3⟩ := HQ.out
        have hb9 : Below w.heap.size w w9 := b3.grown hgrow9 b3.size (fun r' e => (srow_lt b1 r' e).1)
        refine ⟨⟨i + 1, rfl, hlt, ?_, hb9⟩, hme⟩
        rw [hp_yes HE.out, fm_snoc]
        simpa using hown9
      · have dn : ((X i).d == part) = false := by simpa using he
        have HE : Hid ((X i).d ≠ part) := he
        clear he
        go_wp2_with fail
        refine ⟨⟨i + 1, rfl, hlt, ?_, HA.out.2.alloc HA.out.2.size _⟩, hme⟩
        rw [hp_no HE.out]
        exact World.ownsRow.alloc HA.out.1 _
    have dlt : decide ((i : Int) < (n : Int)) = false := by simp; omega
    obtain rfl : i = n := by omega
    have HF : Hid (wr.ownsRow w.heap.size 23 1 u5 (hp part X i).length ((hp part X i).flatMap tmL) ∧ Below w.heap.size w wr) := ⟨hst, hb⟩
    clear hst hb
    go_wp2_with fail
    go_ret
    exact ⟨_, rfl, HF.out⟩
set_option maxRecDepth 100000 in
set_option maxHeartbeats 4000000 in
theorem happens_any (p : Option Addr) (n c : Nat) (X : Nat → Se) (part : Int) (hn : n ≤ 2932031007402) (w : World) (h : SIn w p n X) :
    Calls Try.prog 32 #[.slice p n c, .int .i64 part] w fun e w' => ∃ v, e = .returned v ∧ w'.ownsRow w.heap.size 67 6 v (hp part X n).length ((hp part X n).flatMap seL) ∧ Below w.heap.size w w' := by
  obtain ⟨iA, hA1, hA2, hA3, hA4⟩ := sinfo infoSE
  have HS : Hid (SIn w p n X) := h
  clear h
  go_enter Try.func32, Try.ntmps32
  go_wp2_with fail
  go_loopw [5, 10] (fun r x wr => ∃ i : Nat, x = .int .i64 (i : Int) ∧ i ≤ n ∧ wr.ownsRow w.heap.size 67 6 r (hp part X i).length ((hp part X i).flatMap seL) ∧ Below w.heap.size w wr) (fun _ x _ => n - (intOf x).toNat)
  case atStart => exact ⟨0, rfl, Nat.zero_le _, World.ownsRow_nil _ _ _ _, Below.refl _ _⟩
  case round =>
    obtain ⟨i, rfl, hi, hst, hb⟩ := hrel
    by_cases hlt : i < n
    case pos =>
      have dlt : decide ((i : Int) < (n : Int)) = true := by simp; omega
      have i0 : (0 : Int) ≤ (i : Int) := by omega
      have i1 : (i : Int) < (n : Int) := by omega
      have ei : IntKind.i64.wrap ((i : Int) + 1) = (i : Int) + 1 := by rw [IntKind.wrap_i64]; omega
      have hme := meas hlt
      obtain ⟨g, o, rfl, hg, x0, x1, x2, x3, x4, x5⟩ := (HS.out.below hb).at hlt
      have HA : Hid (wr.ownsRow w.heap.size 67 6 u5 (hp part X i).length ((hp part X i).flatMap seL) ∧ Below w.heap.size w wr) := ⟨hst, hb⟩
      have hl9 := hp_len part X i
      have p1 : (hp part X i).length + 1 ≤ maxLen := by unfold maxLen; omega
      have p2 : ((hp part X i).length + 1) * 48 ≤ 140737488355328 := by omega
      clear hst hb hl9
      by_cases he : (X i).d = part
      · have dn : ((X i).d == part) = true := by simpa using he
        have HE : Hid ((X i).d = part) := he
        have HQ : Hid (((wr.alloc (.cells #[.int .u64 (X i).t, .int .i64 (X i).s, .int .u64 (X i).q, .int .i64 (X i).d, .int .i64 (X i).k, .int .i64 (X i).v] 67)).alloc (.cells #[.int .u64 (X i).t, .int .i64 (X i).s, .int .u64 (X i).q, .int .i64 (X i).d, .int .i64 (X i).k, .int .i64 (X i).v] 67)).ownsRow w.heap.size 67 6 u5 (hp part X i).length ((hp part X i).flatMap seL) ∧ (∀ j y, (seL (X i))[j]? = some y → ((wr.alloc (.cells #[.int .u64 (X i).t, .int .i64 (X i).s, .int .u64 (X i).q, .int .i64 (X i).d, .int .i64 (X i).k, .int .i64 (X i).v] 67)).alloc (.cells #[.int .u64 (X i).t, .int .i64 (X i).s, .int .u64 (X i).q, .int .i64 (X i).d, .int .i64 (X i).k, .int .i64 (X i).v] 67)).cell? ((⟨wr.heap.size + 1, 0, none⟩ : Addr).add j) = some y) ∧ Below w.heap.size w ((wr.alloc (.cells #[.int .u64 (X i).t, .int .i64 (X i).s, .int .u64 (X i).q, .int .i64 (X i).d, .int .i64 (X i).k, .int .i64 (X i).v] 67)).alloc (.cells #[.int .u64 (X i).t, .int .i64 (X i).s, .int .u64 (X i).q, .int .i64 (X i).d, .int .i64 (X i).k, .int .i64 (X i).v] 67))) :=
          ⟨World.ownsRow.alloc (World.ownsRow.alloc HA.out.1 _) _, (by have h9 := scells_new (wr.alloc (.cells #[.int .u64 (X i).t, .int .i64 (X i).s, .int .u64 (X i).q, .int .i64 (X i).d, .int .i64 (X i).k, .int .i64 (X i).v] 67)) (seL (X i)) 67; rwa [World.size_alloc] at h9), (HA.out.2.alloc HA.out.2.size _).alloc (by rw [World.size_alloc]; exact Nat.le_succ_of_le HA.out.2.size) _⟩
        clear he
        go_wp2_with (at_builtin; refine wpList_append_own_at _ rfl _ _ 27 rfl w.heap.size 67 iA _ 6 48 Try.underlying27 hA1 hA2 hA3 hA4 rfl (by decide) _ _ _ rfl HQ.out.1 ⟨wr.heap.size + 1, 0, none⟩ 1 1 (seL (X i)) rfl rfl HQ.out.2.1 (by simp [seL, Value.oneCell']) p1 p2 HQ.out.2.2.size ?_; intro v' w9 hown9 hgrow9 _ _)
        obtain ⟨b1, b2, b3⟩ := HQ.out
        have hb9 : Below w.heap.size w w9 := b3.grown hgrow9 b3.size (fun r' e => (srow_lt b1 r' e).1)
        refine ⟨⟨i + 1, rfl, hlt, ?_, hb9⟩, hme⟩
        rw [hp_yes HE.out, fm_snoc]
        simpa using hown9
      · have dn : ((X i).d == part) = false := by simpa using he
        have HE : Hid ((X i).d ≠ part) := he
        clear he
        go_wp2_with fail
        refine ⟨⟨i + 1, rfl, hlt, ?_, HA.out.2.alloc HA.out.2.size _⟩, hme⟩
        rw [hp_no HE.out]
        exact World.ownsRow.alloc HA.out.1 _
    have dlt : decide ((i : Int) < (n : Int)) = false := by simp; omega
    obtain rfl : i = n := by omega
    have HF : Hid (wr.ownsRow w.heap.size 67 6 u5 (hp part X i).length ((hp part X i).flatMap seL) ∧ Below w.heap.size w wr) := ⟨hst, hb⟩
    clear hst hb
    go_wp2_with fail
    go_ret
    exact ⟨_, rfl, HF.out⟩
end Go.Proofs.Ytomjnncgogkglaa
