import Derived.Test.YtlldhjobfgkfcaaS2
namespace Go.Proofs.Ytlldhjobfgkfcaa
open Go.ChangeShapes Go.WideShapes Go.ChangeAt Go.RowKit
set_option linter.unusedVariables false

set_option maxRecDepth 100000 in
set_option maxHeartbeats 1000000 in
theorem rpart_any (q : Option Addr) (n d : Nat) (N : Nat → Plc) (nm : ByteArray) (k : Int) (hn : n ≤ 17592186044416) (w : World) (hq : QAt w q n N) :
    Calls Try.prog 6 #[sceneV (.slice q n d), .string nm, .int .i64 k] w fun e w' => e = .returned (.tuple #[.int .i64 (partF N n nm k).1, .int .i64 (partF N n nm k).2]) ∧ Below w.heap.size w w' := by
  have fy : Hid ((∀ j, j < n → (N j).name.toList ≠ nm.toList) → partF N n nm k = (0, 51)) := partF_none
  have fn : ∀ j, Hid (j < n → (∀ i, i < j → (N i).name.toList ≠ nm.toList) → (N j).name.toList = nm.toList → partF N n nm k = partI (N j) k) := fun j => partF_at
  generalize partF N n nm k = res at fy fn ⊢
  obtain ⟨r1, r2⟩ := res
  have C3 := (cells11 (World.alloc_heap_new w (.cells #[.slice none 0 0, .slice none 0 0, .slice none 0 0, .slice q n d, .slice none 0 0, .slice none 0 0, .int .u64 0, .int .u64 0, .int .u64 0, .int .i64 0, .int .i64 0] 33))).2.2.2.1
  have B0 : Below w.heap.size w (w.alloc (.cells #[.slice none 0 0, .slice none 0 0, .slice none 0 0, .slice q n d, .slice none 0 0, .slice none 0 0, .int .u64 0, .int .u64 0, .int .u64 0, .int .i64 0, .int .i64 0] 33)) := (Below.refl _ w).alloc (Nat.le_refl _) _
  have S0 := World.size_alloc w (.cells #[.slice none 0 0, .slice none 0 0, .slice none 0 0, .slice q n d, .slice none 0 0, .slice none 0 0, .int .u64 0, .int .u64 0, .int .u64 0, .int .i64 0, .int .i64 0] 33)
  have hq' := hq.below B0
  clear hq
  unfold sceneV
  go_enter Try.func6, Try.ntmps6
  go_wp2
  obtain ⟨w0, hw0⟩ : ∃ w0, w.alloc (.cells #[.slice none 0 0, .slice none 0 0, .slice none 0 0, .slice q n d, .slice none 0 0, .slice none 0 0, .int .u64 0, .int .u64 0, .int .u64 0, .int .i64 0, .int .i64 0] 33) = w0 := ⟨_, rfl⟩
  rw [hw0] at C3 B0 S0 hq' ⊢
  clear hw0
  have hS : Hid (w0.heap.size = w.heap.size + 1) := S0
  clear S0
  go_loopw [8] (fun v wr => ∃ i : Nat, v = .int .i64 i ∧ i ≤ n ∧ Hid (∀ j, j < i → (N j).name.toList ≠ nm.toList) ∧ Below w0.heap.size w0 wr) (fun v _ => n - (intOf v).toNat)
  case atStart => exact ⟨0, rfl, Nat.zero_le _, (fun j hj => by omega : ∀ j, j < 0 → (N j).name.toList ≠ nm.toList), Below.refl _ _⟩
  case round =>
    obtain ⟨i, rfl, hi, hsm, hbel⟩ := hrel
    have c3 : wr.cell? ⟨w.heap.size, 3, none⟩ = some (.slice q n d) := (cell_below hbel (by show w.heap.size < _; rw [hS.out]; exact Nat.lt_succ_self _)).trans C3
    have hw : Below w.heap.size w wr := B0.trans (hbel.mono (by rw [hS.out]; exact Nat.le_succ _))
    by_cases hlt : i < n
    · obtain h0 | ⟨b, rfl, hl, hc⟩ := hq'.below hbel
      · omega
      obtain ⟨x0, x1, x2, x3⟩ := hc i hlt
      have dl : decide ((i : Int) < n) = true := decide_eq_true (by omega)
      have hm := meas hlt
      have hni := fn i
      have hb0 : ∀ o1 : Obj, Below w.heap.size w (wr.alloc o1) := fun o1 => hw.alloc hw.size _
      have hb1 : ∀ o1 : Obj, Below w0.heap.size w0 (wr.alloc o1) := fun o1 => hbel.alloc hbel.size _
      clear hc hl fn fy hq'
      by_cases he : (N i).name.toList = nm.toList
      · have dn : ((N i).name.toList != nm.toList) = false := by rw [he]; simp
        have de : ((N i).name.toList == nm.toList) = true := by rw [he]; simp
        have hres := hni.out hlt hsm.out he
        clear hni hsm he hm C3 B0 hb1
        generalize N i = X at x0 x1 x2 x3 dn de hres
        unfold partI at hres
        by_cases h1 : X.size < 1
        · have d1 : decide (X.size < 1) = true := decide_eq_true h1
          by_cases h2 : k = -1
          · subst h2
            rw [if_pos ⟨h1, rfl⟩] at hres
            injection hres with r1 r2
            subst r1 r2
            clear h1 hw
            go_wp2
            refine bodyPost_ret (by simp [results, Try.results6, go_sem]; try rfl) rfl ?_
            exact ⟨rfl, hb0 _⟩
          · have d2 : (k == -1) = false := by simpa using h2
            have d2' : (k != -1) = true := by simpa using h2
            rw [if_neg (by omega), if_neg (by omega)] at hres
            injection hres with r1 r2
            subst r1 r2
            clear h1 hw
            go_wp2
            refine bodyPost_ret (by simp [results, Try.results6, go_sem]; try rfl) rfl ?_
            exact ⟨rfl, hb0 _⟩
        · have d1 : decide (X.size < 1) = false := decide_eq_false h1
          by_cases h3 : 0 ≤ k
          · have d3 : decide (k < 0) = false := decide_eq_false (by omega)
            by_cases h4 : k < X.size
            · have d4 : decide (X.size ≤ k) = false := decide_eq_false (by omega)
              have d4' : decide (k ≥ X.size) = false := decide_eq_false (by omega)
              rw [if_neg (by omega), if_pos ⟨h3, h4⟩] at hres
              injection hres with r1 r2
              subst r1 r2
              clear h1 hw
              go_wp2
              refine bodyPost_ret (by simp [results, Try.results6, go_sem]; try rfl) rfl ?_
              exact ⟨rfl, hb0 _⟩
            · have d4 : decide (X.size ≤ k) = true := decide_eq_true (by omega)
              have d4' : decide (k ≥ X.size) = true := decide_eq_true (by omega)
              rw [if_neg (by omega), if_neg (by omega)] at hres
              injection hres with r1 r2
              subst r1 r2
              clear h1 hw
              go_wp2
              refine bodyPost_ret (by simp [results, Try.results6, go_sem]; try rfl) rfl ?_
              exact ⟨rfl, hb0 _⟩
          · have d3 : decide (k < 0) = true := decide_eq_true (by omega)
            rw [if_neg (by omega), if_neg (by omega)] at hres
            injection hres with r1 r2
            subst r1 r2
            clear h1 hw
            go_wp2
            refine bodyPost_ret (by simp [results, Try.results6, go_sem]; try rfl) rfl ?_
            exact ⟨rfl, hb0 _⟩
      · have dn : ((N i).name.toList != nm.toList) = true := by simpa using he
        have de : ((N i).name.toList == nm.toList) = false := by simpa using he
        have hsm' : Hid (∀ j, j < i + 1 → (N j).name.toList ≠ nm.toList) := by
          show ∀ j, j < i + 1 → (N j).name.toList ≠ nm.toList
          intro j hj
          by_cases h : j < i
          · exact hsm.out j h
          · obtain rfl : j = i := by omega
            exact he
        clear hni hsm he C3
        generalize hX : N i = X at x0 x1 x2 x3 dn de
        clear hX
        go_wp2
        exact ⟨⟨i + 1, rfl, hlt, hsm', hb1 _⟩, hm⟩
    · have dl : decide ((i : Int) < n) = false := decide_eq_false (by omega)
      obtain rfl : i = n := by omega
      have hres := fy.out hsm.out
      injection hres with r1 r2
      subst r1 r2
      clear fy fn hq'
      go_wp2
      refine bodyPost_ret (by simp [results, Try.results6, go_sem]; try rfl) rfl ?_
      exact ⟨rfl, hw⟩

set_option maxRecDepth 100000 in
set_option maxHeartbeats 1000000 in
theorem law_parts (p : Option Addr) (n c : Nat) (N : Nat → Plc) (nm : ByteArray) (k : Int) (hn : n * 40 ≤ 140737488351232) (w : World) (hp : QSrc w p n c N) :
    Calls Try.prog 3 #[.slice p n c, .string nm, .int .i64 k] w fun e w' => e = .returned (.bool true) ∧ Below w.heap.size w w' := by
  have hn' : n ≤ 17592186044416 := by omega
  have HS : ∀ w1 : World, Hid (Below w.heap.size w w1) → Hid (Calls Try.prog 5 #[.slice p n c] w1 fun e w' => ∃ q d, e = .returned (sceneV (.slice q n d)) ∧ Hid (QAt w' q n N) ∧ Hid (Below w.heap.size w w')) := fun w1 h1 => by
    refine (scene_any p n c N hn w1 (hp.below h1.out)).mono ?_
    rintro e w' ⟨q, d, rfl, h2, h3⟩
    exact ⟨q, d, rfl, h2, h1.out.trans (h3.mono h1.out.size)⟩
  have HP : ∀ (w1 : World) q d, Hid (QAt w1 q n N) → Hid (Below w.heap.size w w1) → Hid (Calls Try.prog 4 #[sceneV (.slice q n d), .string nm, .int .i64 k] w1 fun e w' => e = .returned (.tuple #[.int .i64 (partF N n nm k).1, .int .i64 (partF N n nm k).2]) ∧ Hid (Below w.heap.size w w')) := fun w1 q d h0 h1 => by
    refine (part_any q n d N nm k hn' w1 h0.out).mono ?_
    rintro e w' ⟨rfl, h3⟩
    exact ⟨rfl, h1.out.trans (h3.mono h1.out.size)⟩
  have HR : ∀ (w1 : World) q d, Hid (QAt w1 q n N) → Hid (Below w.heap.size w w1) → Hid (Calls Try.prog 6 #[sceneV (.slice q n d), .string nm, .int .i64 k] w1 fun e w' => e = .returned (.tuple #[.int .i64 (partF N n nm k).1, .int .i64 (partF N n nm k).2]) ∧ Hid (Below w.heap.size w w')) := fun w1 q d h0 h1 => by
    refine (rpart_any q n d N nm k hn' w1 h0.out).mono ?_
    rintro e w' ⟨rfl, h3⟩
    exact ⟨rfl, h1.out.trans (h3.mono h1.out.size)⟩
  have hb : Hid (Below w.heap.size w w) := Below.refl _ _
  generalize (partF N n nm k).1 = r1 at HP HR
  generalize (partF N n nm k).2 = r2 at HP HR
  clear hp hn
  go_enter Try.func3, Try.ntmps3
  go_wp2_with (first | (go_at_call 5; (with_reducible refine ((HS _ hb).out).mono ?_); rintro e w1 ⟨q, d, rfl, hq, hb1⟩; replace hb := hb1; clear hb1) | (go_at_call 4; (with_reducible refine ((HP _ _ _ hq hb).out).mono ?_); rintro e w1 ⟨rfl, hb1⟩; replace hb := hb1; clear hb1) | (go_at_call 6; (with_reducible refine ((HR _ _ _ hq hb).out).mono ?_); rintro e w1 ⟨rfl, hb1⟩; replace hb := hb1; clear hb1))
  go_ret
  exact ⟨rfl, hb.out⟩
end Go.Proofs.Ytlldhjobfgkfcaa
