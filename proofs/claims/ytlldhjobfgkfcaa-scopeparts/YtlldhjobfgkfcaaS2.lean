import Derived.Test.YtlldhjobfgkfcaaS1
namespace Go.Proofs.Ytlldhjobfgkfcaa
open Go.ChangeShapes Go.WideShapes Go.ChangeAt Go.RowKit
set_option linter.unusedVariables false

def partI (x : Plc) (k : Int) : Int × Int := if x.size < 1 ∧ k = -1 then (x.pos, 0) else if 0 ≤ k ∧ k < x.size then (wrap64 (x.pos + k), 0) else (0, 54)
def partF (N : Nat → Plc) (n : Nat) (nm : ByteArray) (k : Int) : Int × Int :=
  match (List.range n).find? (fun j => decide ((N j).name.toList = nm.toList)) with
  | none => (0, 51)
  | some j => partI (N j) k
theorem find_none {n : Nat} {f : Nat → Bool} (h : ∀ j, j < n → f j = false) : (List.range n).find? f = none := by
  rw [List.find?_eq_none]
  intro j hj
  rw [h j (List.mem_range.1 hj)]
  decide
theorem find_at {f : Nat → Bool} : ∀ {n j : Nat}, j < n → (∀ i, i < j → f i = false) → f j = true → (List.range n).find? f = some j
  | n + 1, j, hj, hlt, hf => by
    rw [List.range_succ, List.find?_append]
    by_cases h : j < n
    · rw [find_at h hlt hf]
      rfl
    · obtain rfl : j = n := by omega
      rw [find_none hlt]
      simp [hf]
theorem partF_none {N : Nat → Plc} {n : Nat} {nm : ByteArray} {k : Int} (h : ∀ j, j < n → (N j).name.toList ≠ nm.toList) : partF N n nm k = (0, 51) := by
  unfold partF
  rw [find_none (fun j hj => decide_eq_false (h j hj))]
theorem partF_at {N : Nat → Plc} {n : Nat} {nm : ByteArray} {k : Int} {j : Nat} (hj : j < n) (hlt : ∀ i, i < j → (N i).name.toList ≠ nm.toList) (he : (N j).name.toList = nm.toList) : partF N n nm k = partI (N j) k := by
  unfold partF
  rw [find_at hj (fun i hi => decide_eq_false (hlt i hi)) (decide_eq_true he)]
theorem meas {n L : Nat} (h : n < L) : L - (intOf (.int .i64 ((n : Int) + 1))).toNat < L - (intOf (.int .i64 (n : Int))).toNat := by
  simp only [intOf]
  omega

set_option maxRecDepth 100000 in
set_option maxHeartbeats 1000000 in
theorem part_any (q : Option Addr) (n d : Nat) (N : Nat → Plc) (nm : ByteArray) (k : Int) (hn : n ≤ 17592186044416) (w : World) (hq : QAt w q n N) :
    Calls Try.prog 4 #[sceneV (.slice q n d), .string nm, .int .i64 k] w fun e w' => e = .returned (.tuple #[.int .i64 (partF N n nm k).1, .int .i64 (partF N n nm k).2]) ∧ Below w.heap.size w w' := by
  have fy : Hid ((∀ j, j < n → (N j).name.toList ≠ nm.toList) → partF N n nm k = (0, 51)) := partF_none
  have fn : ∀ j, Hid (j < n → (∀ i, i < j → (N i).name.toList ≠ nm.toList) → (N j).name.toList = nm.toList → partF N n nm k = partI (N j) k) := fun j => partF_at
  generalize partF N n nm k = res at fy fn ⊢
  obtain ⟨r1, r2⟩ := res
  unfold sceneV
  go_enter Try.func4, Try.ntmps4
  go_wp2
  go_loopw [13] (fun v wr => ∃ i : Nat, v = .int .i64 i ∧ i ≤ n ∧ Hid (∀ j, j < i → (N j).name.toList ≠ nm.toList) ∧ Below w.heap.size w wr) (fun v _ => n - (intOf v).toNat)
  case atStart => exact ⟨0, rfl, Nat.zero_le _, (fun j hj => by omega : ∀ j, j < 0 → (N j).name.toList ≠ nm.toList), (Below.refl _ _).alloc (Nat.le_refl _) _⟩
  case round =>
    obtain ⟨i, rfl, hi, hsm, hbel⟩ := hrel
    by_cases hlt : i < n
    · obtain h0 | ⟨b, rfl, hl, hc⟩ := hq.below hbel
      · omega
      obtain ⟨x0, x1, x2, x3⟩ := hc i hlt
      have dl : decide ((i : Int) < n) = true := decide_eq_true (by omega)
      have hm := meas hlt
      have hni := fn i
      have hb0 : ∀ o1 : Obj, Below w.heap.size w (wr.alloc o1) := fun o1 => hbel.alloc hbel.size _
      clear hc hl fn fy hq
      by_cases he : (N i).name.toList = nm.toList
      · have dn : ((N i).name.toList != nm.toList) = false := by rw [he]; simp
        have de : ((N i).name.toList == nm.toList) = true := by rw [he]; simp
        have hres := hni.out hlt hsm.out he
        clear hni hsm he hm
        generalize N i = X at x0 x1 x2 x3 dn de hres
        unfold partI at hres
        by_cases h1 : X.size < 1
        · have d1 : decide (X.size < 1) = true := decide_eq_true h1
          by_cases h2 : k = -1
          · subst h2
            rw [if_pos ⟨h1, rfl⟩] at hres
            injection hres with r1 r2
            subst r1 r2
            clear h1
            go_wp2
            refine bodyPost_ret (by simp [results, Try.results4, go_sem]; try rfl) rfl ?_
            exact ⟨rfl, hb0 _⟩
          · have d2 : (k == -1) = false := by simpa using h2
            rw [if_neg (by omega), if_neg (by omega)] at hres
            injection hres with r1 r2
            subst r1 r2
            by_cases h3 : 0 ≤ k
            · have d3 : decide (0 ≤ k) = true := decide_eq_true h3
              have d3' : decide (k ≥ 0) = true := decide_eq_true h3
              have d4 : decide (k < X.size) = false := decide_eq_false (by omega)
              clear h1 h2 h3
              go_wp2
              refine bodyPost_ret (by simp [results, Try.results4, go_sem]; try rfl) rfl ?_
              exact ⟨rfl, hb0 _⟩
            · have d3 : decide (0 ≤ k) = false := decide_eq_false h3
              have d3' : decide (k ≥ 0) = false := decide_eq_false h3
              clear h1 h2 h3
              go_wp2
              refine bodyPost_ret (by simp [results, Try.results4, go_sem]; try rfl) rfl ?_
              exact ⟨rfl, hb0 _⟩
        · have d1 : decide (X.size < 1) = false := decide_eq_false h1
          by_cases h3 : 0 ≤ k
          · have d3 : decide (0 ≤ k) = true := decide_eq_true h3
            have d3' : decide (k ≥ 0) = true := decide_eq_true h3
            by_cases h4 : k < X.size
            · have d4 : decide (k < X.size) = true := decide_eq_true h4
              rw [if_neg (by omega), if_pos ⟨h3, h4⟩] at hres
              injection hres with r1 r2
              subst r1 r2
              clear h1 h3 h4
              go_wp2
              refine bodyPost_ret (by simp [results, Try.results4, go_sem]; try rfl) rfl ?_
              exact ⟨rfl, hb0 _⟩
            · have d4 : decide (k < X.size) = false := decide_eq_false h4
              rw [if_neg (by omega), if_neg (by omega)] at hres
              injection hres with r1 r2
              subst r1 r2
              clear h1 h3 h4
              go_wp2
              refine bodyPost_ret (by simp [results, Try.results4, go_sem]; try rfl) rfl ?_
              exact ⟨rfl, hb0 _⟩
          · have d3 : decide (0 ≤ k) = false := decide_eq_false h3
            have d3' : decide (k ≥ 0) = false := decide_eq_false h3
            rw [if_neg (by omega), if_neg (by omega)] at hres
            injection hres with r1 r2
            subst r1 r2
            clear h1 h3
            go_wp2
            refine bodyPost_ret (by simp [results, Try.results4, go_sem]; try rfl) rfl ?_
            exact ⟨rfl, hb0 _⟩
      · have dn : ((N i).name.toList != nm.toList) = true := by simpa using he
        have de : ((N i).name.toList == nm.toList) = false := by simpa using he
        have hsm' : Hid (∀ j, j < i + 1 → (N j).name.toList ≠ nm.toList) := by
          show ∀ j, j < i + 1 → (N j).name.toList ≠ nm.toList
          intro j hj
          by_cases h : j < i
          · exact hsm.out j h
          · obtain rfl : j = i := by omega
            exact he
        clear hni hsm he
        generalize hX : N i = X at x0 x1 x2 x3 dn de
        clear hX
        go_wp2
        exact ⟨⟨i + 1, rfl, hlt, hsm', hb0 _⟩, hm⟩
    · have dl : decide ((i : Int) < n) = false := decide_eq_false (by omega)
      obtain rfl : i = n := by omega
      have hres := fy.out hsm.out
      injection hres with r1 r2
      subst r1 r2
      clear fy fn hq
      go_wp2
      refine bodyPost_ret (by simp [results, Try.results4, go_sem]; try rfl) rfl ?_
      exact ⟨rfl, hbel⟩
end Go.Proofs.Ytlldhjobfgkfcaa
