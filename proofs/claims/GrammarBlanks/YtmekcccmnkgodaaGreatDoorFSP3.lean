import Derived.Test.YtmekcccmnkgodaaGreatDoorFSP1
import Derived.Test.YtmekcccmnkgodaaGreatDoorFLF1
import Derived.WalkMore
import Derived.Deep.RegionHeld3
import Derived.BigQuiet
import Derived.Deep.Cut
namespace Go.Proofs.YtmekcccmnkgodaaGreatDoor
open Go.ChangeShapes Go.WideShapes Go.ChangeAt Go.RowKit
set_option linter.unusedVariables false
set_option linter.unusedSimpArgs false
def tkA (t : Tk) : Array Value := #[.int .i64 t.kind, .string ⟨t.text.toArray⟩, .int .u64 (t.num : Int), .int .i64 t.line, .int .i64 t.col]
theorem below_drq (B : Nat) (w : World) (n : Nat) : Below B w (w.drewN n) := ⟨rfl, rfl, rfl, Nat.le_refl _, fun _ _ => rfl⟩
theorem nat_beq (m n : Nat) : ((m : Int) == (n : Int)) = decide (m = n) := by
  by_cases h : m = n
  · subst h; simp
  · rw [decide_eq_false h]; simp; omega
set_option maxRecDepth 100000 in
theorem sameToken_any (a b : Tk) (w : World) : Calls Tryz.prog 59 #[.agg (tkA a), .agg (tkA b)] w fun e w' => e = .returned (.bool (alike a b)) ∧ Below w.heap.size w w' := by
  obtain ⟨ak, at', an, al, ac⟩ := a
  obtain ⟨bk, bt, bn, bl, bc⟩ := b
  have hbb : ∀ o1 o2, Below w.heap.size w ((w.alloc o1).alloc o2) := fun o1 o2 => ((Below.refl _ w).alloc (Nat.le_refl _) _).alloc (by simp) _
  unfold tkA alike
  simp only
  by_cases h1 : ak = bk
  · subst h1
    by_cases h2 : at' = bt
    · subst h2
      have hnn := nat_beq an bn
      go_enter Tryz.func59, Tryz.ntmps59
      go_wp2
      go_ret
      exact ⟨by simp, hbb _ _⟩
    · have d2 : (at' == bt) = false := by simp; exact h2
      have hz : (decide (ak = ak) && (decide (at' = bt) && decide (an = bn))) = false := by simp [h2]
      rw [hz]
      clear hz h2
      go_enter Tryz.func59, Tryz.ntmps59
      go_wp2
      all_goals
        go_ret
        exact ⟨by simp, hbb _ _⟩
  · have d1 : (ak == bk) = false := by simp; exact h1
    have hz : (decide (ak = bk) && (decide (at' = bt) && decide (an = bn))) = false := by simp [h1]
    rw [hz]
    clear hz h1
    go_enter Tryz.func59, Tryz.ntmps59
    go_wp2
    all_goals
      go_ret
      exact ⟨by simp, hbb _ _⟩
theorem tk_row {W : World} {base : Nat} {g c : Nat} {x : Tk} (h : W.ownsRow base 40 5 (.slice (some ⟨g, 0, none⟩) 1 c) 1 (tksCells [x])) : W.cell? ⟨g, 0, none⟩ = some (.int .i64 x.kind) ∧ W.cell? ⟨g, 1, none⟩ = some (.string ⟨x.text.toArray⟩) ∧ W.cell? ⟨g, 2, none⟩ = some (.int .u64 (x.num : Int)) ∧ W.cell? ⟨g, 3, none⟩ = some (.int .i64 x.line) ∧ W.cell? ⟨g, 4, none⟩ = some (.int .i64 x.col) := by
  have h2 := own_tks (l := [x]).2 h
  have e : ∀ r, r < 5 → W.cell? ⟨g, r, none⟩ = some ((tkCells x).getD r undef) := fun r hr => by
    have h3 := tks_at [x] 0 r x rfl hr
    rw [Nat.zero_mul, Nat.zero_add] at h3
    rw [← h3]
    exact h2.cell (by simp; omega)
  exact ⟨e 0 (by omega), e 1 (by omega), e 2 (by omega), e 3 (by omega), e 4 (by omega)⟩
set_option maxRecDepth 100000 in
set_option maxHeartbeats 2000000 in
theorem standsAlone_any (t : Tk) (ht : t.text.length ≤ maxLen) (w : World) (g : Gr w) : Calls Tryz.prog 38 #[.agg (tkA t)] w fun e w' => e = .returned (.bool (alB t)) ∧ Below w.heap.size w w' := by
  obtain ⟨w1, hw1⟩ : ∃ w1, w.alloc (.cells #[.int .i64 t.kind, .string ⟨t.text.toArray⟩, .int .u64 (t.num : Int), .int .i64 t.line, .int .i64 t.col] 40) = w1 := ⟨_, rfl⟩
  have hb1 : Below w.heap.size w w1 := by rw [← hw1]; exact (Below.refl _ w).alloc (Nat.le_refl _) _
  have hbx : w1.heap[w.heap.size]? = some (.cells #[.int .i64 t.kind, .string ⟨t.text.toArray⟩, .int .u64 (t.num : Int), .int .i64 t.line, .int .i64 t.col] 40 (0, 0)) := by rw [← hw1]; exact World.alloc_heap_new w _
  have hz1 : w1.heap.size = w.heap.size + 1 := by rw [← hw1]; simp
  have HS := scan_any t.text ht w1 (g.keep hb1)
  have HW : Hid (w.alloc (.cells #[.int .i64 t.kind, .string ⟨t.text.toArray⟩, .int .u64 (t.num : Int), .int .i64 t.line, .int .i64 t.col] 40) = w1) := hw1
  have HB : Hid (Below w.heap.size w w1 ∧ w1.heap[w.heap.size]? = some (.cells #[.int .i64 t.kind, .string ⟨t.text.toArray⟩, .int .u64 (t.num : Int), .int .i64 t.line, .int .i64 t.col] 40 (0, 0)) ∧ w1.heap.size = w.heap.size + 1) := ⟨hb1, hbx, hz1⟩
  have HAL : Hid (alB t = (match scanT t.text with | ([x], none) => alike x t | _ => false)) := rfl
  obtain ⟨al, hal⟩ : ∃ al, alB t = al := ⟨_, rfl⟩
  rw [hal] at HAL ⊢
  unfold tkA
  clear hw1 hb1 hbx hz1 g hal
  cases hR : scanT t.text with
  | mk R1 R2 =>
  rw [hR] at HS HAL
  cases R2 with
  | some er =>
    obtain rfl : al = false := by
      have h9 := HAL.out
      rw [h9]
      split
      · rename_i he
        cases he
      · rfl
    have HS1 : Hid (Calls Tryz.prog 9 #[.string ⟨t.text.toArray⟩] w1 fun e w' => ∃ q, e = .returned (.tuple #[.slice none 0 0, .iface 56 (.pointer (some ⟨q, 0, none⟩))]) ∧ Below w1.heap.size w1 w') := by
      refine HS.mono ?_
      rintro e w' ⟨hb, ⟨h0, _⟩ | ⟨er', q, _, rfl, _⟩⟩
      · cases h0
      · exact ⟨q, rfl, hb⟩
    clear HS hR HAL
    go_enter Tryz.func38, Tryz.ntmps38
    go_wp2_with (go_at_call 9; rw [HW.out]; (with_reducible refine (HS1.out).mono ?_); rintro e w2 ⟨q, rfl, hb2⟩)
    go_quiet (fail)
    go_wp2
    go_ret
    exact ⟨by simp, (HB.out.1.trans (hb2.mono HB.out.1.size)).trans (below_drq _ _ _)⟩
  | none =>
    have HS1 : Hid (Calls Tryz.prog 9 #[.string ⟨t.text.toArray⟩] w1 fun e w' => ∃ p c, e = .returned (.tuple #[.slice p R1.length c, .nilIface]) ∧ w'.ownsRow w1.heap.size 40 5 (.slice p R1.length c) R1.length (tksCells R1) ∧ Below w1.heap.size w1 w') := by
      refine HS.mono ?_
      rintro e w' ⟨hb, ⟨_, v, rfl, ho⟩ | ⟨er', q, h0, _⟩⟩
      · obtain ⟨p, c, rfl, _⟩ := own_form' (own_tks.2 ho)
        exact ⟨p, c, rfl, ho, hb⟩
      · cases h0
    clear HS hR
    by_cases hl : R1.length = 1
    · obtain ⟨x, rfl⟩ : ∃ x, R1 = [x] := List.length_eq_one_iff.1 hl
      obtain rfl : al = alike x t := HAL.out
      have HC : Hid (∀ w', Calls Tryz.prog 59 #[.agg #[.int .i64 x.kind, .string ⟨x.text.toArray⟩, .int .u64 (x.num : Int), .int .i64 x.line, .int .i64 x.col], .agg #[.int .i64 t.kind, .string ⟨t.text.toArray⟩, .int .u64 (t.num : Int), .int .i64 t.line, .int .i64 t.col]] w' fun e w'' => e = .returned (.bool (alike x t)) ∧ Below w'.heap.size w' w'') := fun w' => sameToken_any x t w'
      clear HAL hl
      have HS2 : Hid (Calls Tryz.prog 9 #[.string ⟨t.text.toArray⟩] w1 fun e w' => ∃ g c, e = .returned (.tuple #[.slice (some ⟨g, 0, none⟩) 1 c, .nilIface]) ∧ w'.ownsRow w1.heap.size 40 5 (.slice (some ⟨g, 0, none⟩) 1 c) 1 (tksCells [x]) ∧ Below w1.heap.size w1 w') := by
        refine HS1.out.mono ?_
        rintro e w' ⟨p, c, rfl, ho, hb⟩
        obtain ⟨p', c', e', h9⟩ := own_form' (own_tks.2 ho)
        injection e' with e1 _ e3
        subst e1 e3
        rcases h9 with h9 | ⟨g, rfl⟩
        · cases h9
        · exact ⟨g, c, rfl, ho, hb⟩
      clear HS1
      go_enter Tryz.func38, Tryz.ntmps38
      go_wp2_with (go_at_call 9; rw [HW.out]; (with_reducible refine (HS2.out).mono ?_); rintro e w2 ⟨gg, c, rfl, ho2, hb2⟩)
      have hS : ∀ W, Below w2.heap.size w2 W → ((W.cell? ⟨gg, 0, none⟩ = some (.int .i64 x.kind) ∧ W.cell? ⟨gg, 1, none⟩ = some (.string ⟨x.text.toArray⟩) ∧ W.cell? ⟨gg, 2, none⟩ = some (.int .u64 (x.num : Int)) ∧ W.cell? ⟨gg, 3, none⟩ = some (.int .i64 x.line) ∧ W.cell? ⟨gg, 4, none⟩ = some (.int .i64 x.col)) ∧ (W.cell? ⟨w.heap.size, 0, none⟩ = some (.int .i64 t.kind) ∧ W.cell? ⟨w.heap.size, 1, none⟩ = some (.string ⟨t.text.toArray⟩) ∧ W.cell? ⟨w.heap.size, 2, none⟩ = some (.int .u64 (t.num : Int)) ∧ W.cell? ⟨w.heap.size, 3, none⟩ = some (.int .i64 t.line) ∧ W.cell? ⟨w.heap.size, 4, none⟩ = some (.int .i64 t.col))) := fun W hW => by
        have hz := HB.out.2.2
        have hz2 := hb2.size
        exact ⟨tk_row (own_tks.1 ((own_tks (l := [x]).2 ho2).more hW)), cells5 ((hW.block _ (by omega)).trans ((hb2.block _ (by omega)).trans HB.out.2.1))⟩
      have s0 := hS w2.drew (Below.refl _ w2).drew
      have HSS : Hid (∀ W, Below w2.heap.size w2 W → _) := hS
      have HBF : Hid (Below w.heap.size w w2) := HB.out.1.trans (hb2.mono HB.out.1.size)
      clear hS ho2 hb2
      go_region_held3 (fun W => (W.cell? ⟨gg, 0, none⟩ = some (.int .i64 x.kind) ∧ W.cell? ⟨gg, 1, none⟩ = some (.string ⟨x.text.toArray⟩) ∧ W.cell? ⟨gg, 2, none⟩ = some (.int .u64 (x.num : Int)) ∧ W.cell? ⟨gg, 3, none⟩ = some (.int .i64 x.line) ∧ W.cell? ⟨gg, 4, none⟩ = some (.int .i64 x.col)) ∧ (W.cell? ⟨w.heap.size, 0, none⟩ = some (.int .i64 t.kind) ∧ W.cell? ⟨w.heap.size, 1, none⟩ = some (.string ⟨t.text.toArray⟩) ∧ W.cell? ⟨w.heap.size, 2, none⟩ = some (.int .u64 (t.num : Int)) ∧ W.cell? ⟨w.heap.size, 3, none⟩ = some (.int .i64 t.line) ∧ W.cell? ⟨w.heap.size, 4, none⟩ = some (.int .i64 t.col))) (first | exact s0 | exact s7 | go_keep) ((go_at_call 59; (with_reducible refine (HC.out _).mono ?_); rintro e9 w9 ⟨rfl, hb9⟩; have hb99 : Below w2.heap.size w2 w9 := (Below.refl _ w2).drew.trans hb9; have s7 := HSS.out w9 hb99))
      all_goals
        go_wp2
        go_ret
        exact ⟨by simp, HBF.out.trans (hb99.mono HBF.out.size)⟩
    · obtain rfl : al = false := by
        have := HAL.out
        rw [this]
        split
        · rename_i x he
          injection he with he _
          subst he
          exact absurd rfl hl
        · rfl
      have d1 : ((R1.length : Int) == 1) = false := by simp; omega
      clear HAL
      go_enter Tryz.func38, Tryz.ntmps38
      go_wp2_with (go_at_call 9; rw [HW.out]; (with_reducible refine (HS1.out).mono ?_); rintro e w2 ⟨p, c, rfl, ho2, hb2⟩)
      clear ho2
      go_quiet (fail)
      go_wp2
      go_ret
      exact ⟨by simp, (HB.out.1.trans (hb2.mono HB.out.1.size)).trans (below_drq _ _ _)⟩
end Go.Proofs.YtmekcccmnkgodaaGreatDoor
namespace Go.Proofs.YtmekcccmnkgodaaGreatDoor
open Go.ChangeShapes Go.WideShapes Go.ChangeAt Go.RowKit
set_option linter.unusedVariables false
set_option linter.unusedSimpArgs false
theorem wp_region_heldX {P : Program} {id : Nat} {ops : List Oper} {Q : Exit → Act → World → Prop} {S : World → Prop} {a : Act} {w : World} (hm : P.follows .mixedOrders = true) (hS : S w.drew)
    (h : S w.drew → wpAnyH P .any ops.toArray Q S ops.toArray.size (Array.replicate ops.toArray.size false) a w.drew) : (Code.region id ops.toArray true).wp P Q a w :=
  wp_region_any hm (wpAny_of_held _ _ _ _ (h hS))
theorem bs_beq (a b : Bs) : (a == b) = decide (a = b) := by
  by_cases h : a = b
  · subst h; simp
  · rw [decide_eq_false h]; simp; exact h
theorem rdV_form (y a : Bs) : ∃ (k : Int) (u : Bs) (v : Nat) (cd : Int), rdV (rd y) = .tuple #[.agg #[.int .i64 k, .string ⟨u.toArray⟩, .int .u64 (v : Int), .int .i64 0, .int .i64 0], .int .i64 cd] ∧ ((cd = 0 ∧ rdIs (rd y) a = decide (u = a)) ∨ ((cd == 0) = false ∧ rdIs (rd y) a = false)) := by
  cases h : rd y with
  | err e =>
    refine ⟨0, [], 0, e, rfl, .inr ⟨?_, rfl⟩⟩
    have := rd_code y e h
    simp
    omega
  | ok k u v => exact ⟨k, u, v, 0, rfl, .inl ⟨rfl, rfl⟩⟩
theorem put5 {W : World} {b : Nat} {a0 a1 a2 a3 a4 : Value} {t : TypeId} (h : W.heap[b]? = some (.cells #[a0, a1, a2, a3, a4] t (0, 0))) (c0 c1 c2 c3 c4 : Value) (W' : World) (e : ((((W.setCell ⟨b, 0, none⟩ c0).setCell ⟨b, 1, none⟩ c1).setCell ⟨b, 2, none⟩ c2).setCell ⟨b, 3, none⟩ c3).setCell ⟨b, 4, none⟩ c4 = W') : W'.heap[b]? = some (.cells #[c0, c1, c2, c3, c4] t (0, 0)) ∧ (∀ k, k ≠ b → W'.heap[k]? = W.heap[k]?) ∧ (∀ B w0, Below B w0 W → B ≤ b → Below B w0 W') ∧ W'.heap.size = W.heap.size := by
  subst e
  have h0 : (W.setCell ⟨b, 0, none⟩ c0).heap[b]? = some (.cells #[c0, a1, a2, a3, a4] t (0, 0)) := by rw [setCell_block _ _ _ _ h]; rfl
  have h1 : ((W.setCell ⟨b, 0, none⟩ c0).setCell ⟨b, 1, none⟩ c1).heap[b]? = some (.cells #[c0, c1, a2, a3, a4] t (0, 0)) := by rw [setCell_block _ _ _ _ h0]; rfl
  have h2 : (((W.setCell ⟨b, 0, none⟩ c0).setCell ⟨b, 1, none⟩ c1).setCell ⟨b, 2, none⟩ c2).heap[b]? = some (.cells #[c0, c1, c2, a3, a4] t (0, 0)) := by rw [setCell_block _ _ _ _ h1]; rfl
  have h3 : ((((W.setCell ⟨b, 0, none⟩ c0).setCell ⟨b, 1, none⟩ c1).setCell ⟨b, 2, none⟩ c2).setCell ⟨b, 3, none⟩ c3).heap[b]? = some (.cells #[c0, c1, c2, c3, a4] t (0, 0)) := by rw [setCell_block _ _ _ _ h2]; rfl
  refine ⟨by rw [setCell_block _ _ _ _ h3]; rfl, fun k hk => ?_, fun B w0 hb hB => ?_, by simp [World.setCell]⟩
  · rw [Below.heap_setCell _ _ _ _ hk, Below.heap_setCell _ _ _ _ hk, Below.heap_setCell _ _ _ _ hk, Below.heap_setCell _ _ _ _ hk, Below.heap_setCell _ _ _ _ hk]
  · exact ((((hb.setCell (p := ⟨b, 0, none⟩) hB _).setCell (p := ⟨b, 1, none⟩) hB _).setCell (p := ⟨b, 2, none⟩) hB _).setCell (p := ⟨b, 3, none⟩) hB _).setCell (p := ⟨b, 4, none⟩) hB _
theorem frz5 {W : World} {b : Nat} {cs : Array Value} {t : TypeId} (h : W.heap[b]? = some (.cells cs t (0, 0))) : ∀ k, W.frozen? ⟨b, k, none⟩ = false := fun k => by simp [World.frozen?, h]
theorem ext1 (c : UInt8) (x : Bs) : (⟨(c :: x).toArray⟩ : ByteArray).extract 0 1 = ⟨#[c]⟩ := by
  apply ByteArray.ext
  simp [ByteArray.data_extract]
theorem cat1 (a : Bs) (c : UInt8) : (⟨a.toArray⟩ ++ ⟨#[c]⟩ : ByteArray) = ⟨(a ++ [c]).toArray⟩ := by
  apply ByteArray.ext
  simp [ByteArray.data_append]
set_option maxRecDepth 100000 in
set_option maxHeartbeats 2000000 in
theorem mayTouch_any (a b : Tk) (c : UInt8) (x : Bs) (hbt : b.text = c :: x) (ha : a.text ≠ []) (hla : a.text.length ≤ 65536) (hlb : b.text.length ≤ 65536) (w : World) (g : Gr w) : Calls Tryz.prog 60 #[.agg (tkA a), .agg (tkA b)] w fun e w' => e = .returned (.bool (tchB a b)) ∧ Below w.heap.size w w' := by
  obtain ⟨ak, at', an, al, ac⟩ := a
  obtain ⟨bk, bt, bn, bl, bc⟩ := b
  simp only at hbt ha hla hlb
  subst hbt
  unfold tkA tchB
  simp only
  obtain ⟨w1, hw1⟩ : ∃ w1, (w.alloc (.cells #[.int .i64 ak, .string ⟨at'.toArray⟩, .int .u64 (an : Int), .int .i64 al, .int .i64 ac] 40)).alloc (.cells #[.int .i64 bk, .string ⟨(c :: x).toArray⟩, .int .u64 (bn : Int), .int .i64 bl, .int .i64 bc] 40) = w1 := ⟨_, rfl⟩
  have hbA : Below w.heap.size w (w.alloc (.cells #[.int .i64 ak, .string ⟨at'.toArray⟩, .int .u64 (an : Int), .int .i64 al, .int .i64 ac] 40)) := (Below.refl _ w).alloc (Nat.le_refl _) _
  have hb1 : Below w.heap.size w w1 := by rw [← hw1]; exact hbA.alloc (by simp) _
  have hbx : w1.heap[w.heap.size]? = some (.cells #[.int .i64 ak, .string ⟨at'.toArray⟩, .int .u64 (an : Int), .int .i64 al, .int .i64 ac] 40 (0, 0)) := by rw [← hw1]; exact (Below.heap_alloc _ _ _ (by simp)).trans (World.alloc_heap_new w _)
  have hby : w1.heap[w.heap.size + 1]? = some (.cells #[.int .i64 bk, .string ⟨(c :: x).toArray⟩, .int .u64 (bn : Int), .int .i64 bl, .int .i64 bc] 40 (0, 0)) := by
    rw [← hw1]
    have h := World.alloc_heap_new (w.alloc (.cells #[.int .i64 ak, .string ⟨at'.toArray⟩, .int .u64 (an : Int), .int .i64 al, .int .i64 ac] 40)) (.cells #[.int .i64 bk, .string ⟨(c :: x).toArray⟩, .int .u64 (bn : Int), .int .i64 bl, .int .i64 bc] 40 (0, 0))
    rw [World.size_alloc] at h
    exact h
  obtain ⟨_, p1, _⟩ := cells5 hbx
  obtain ⟨_, q1, _⟩ := cells5 hby
  have HB : Hid (Below w.heap.size w w1 ∧ w1.heap[w.heap.size]? = some (.cells #[.int .i64 ak, .string ⟨at'.toArray⟩, .int .u64 (an : Int), .int .i64 al, .int .i64 ac] 40 (0, 0)) ∧ w1.heap[w.heap.size + 1]? = some (.cells #[.int .i64 bk, .string ⟨(c :: x).toArray⟩, .int .u64 (bn : Int), .int .i64 bl, .int .i64 bc] 40 (0, 0)) ∧ Gr w1) := ⟨hb1, hbx, hby, g.keep hb1⟩
  clear hbA hb1 hbx hby g
  have haz : (⟨at'.toArray⟩ : ByteArray).size = at'.length := by simp [ByteArray.size]
  have hbz : (⟨(c :: x).toArray⟩ : ByteArray).size = (c :: x).length := by simp [ByteArray.size]
  obtain ⟨la, hlae⟩ : ∃ la, at'.length = la := ⟨_, rfl⟩
  obtain ⟨lb, hlbe⟩ : ∃ lb, (c :: x).length = lb := ⟨_, rfl⟩
  rw [hlae] at haz hla
  rw [hlbe] at hbz hlb
  have es : IntKind.i64.wrap ((la : Int) + (lb : Int)) = (la : Int) + (lb : Int) := by rw [IntKind.wrap_i64]; omega
  obtain ⟨y, hy⟩ : ∃ y, at' ++ [c] = y := ⟨_, rfl⟩
  have hx1 := ext1 c x
  have hcat := cat1 at' c
  rw [hy] at hcat
  have hcc : ¬ 9223372036854775807 < la + 1 := by omega
  obtain ⟨R, hR⟩ : ∃ R, rd y = R := ⟨_, rfl⟩
  have HRD : Hid (∀ W, Below w1.heap.size w1 W → Calls Tryz.prog 46 #[.string ⟨y.toArray⟩] W fun e w' => e = .returned (rdV R) ∧ Below W.heap.size W w' ∧ (w'.cell? ⟨w.heap.size, 1, none⟩ = some (.string ⟨at'.toArray⟩) ∧ w'.cell? ⟨w.heap.size + 1, 1, none⟩ = some (.string ⟨(c :: x).toArray⟩))) := fun W hW => by
    obtain ⟨c0, r0, h0⟩ : ∃ c0 r0, y = c0 :: r0 := by
      rw [← hy]
      cases at' with
      | nil => exact ⟨c, [], rfl⟩
      | cons d z => exact ⟨d, z ++ [c], rfl⟩
    have hyl : y.length = la + 1 := by rw [← hy, List.length_append, hlae]; rfl
    rw [h0] at hyl
    have h9 := read_any c0 r0 (by rw [hyl]; omega) W (HB.out.2.2.2.keep hW)
    rw [← h0, hR] at h9
    refine h9.mono fun e w' h8 => ?_
    have hbb := hW.trans (h8.2.mono hW.size)
    have l1 := (Array.getElem?_eq_some_iff.1 HB.out.2.1).1
    have l2 := (Array.getElem?_eq_some_iff.1 HB.out.2.2.1).1
    exact ⟨h8.1, h8.2, (cells5 ((hbb.block _ l1).trans HB.out.2.1)).2.1, (cells5 ((hbb.block _ l2).trans HB.out.2.2.1)).2.1⟩
  have hgoal : (decide (at'.length + (c :: x).length ≤ 65536) && rdIs (rd (at' ++ List.take 1 (c :: x))) at') = (decide (la + lb ≤ 65536) && rdIs R at') := by
    rw [show List.take 1 (c :: x) = [c] from rfl, hy, hR, hlae, hlbe]
  rw [hgoal]
  have hform := rdV_form y at'
  rw [hR] at hform
  clear hgoal hR hy
  have HLB : Hid ((c :: x).length = lb) := hlbe
  clear hlbe
  go_enter Tryz.func60, Tryz.ntmps60
  by_cases hl : la + lb ≤ 65536
  case neg =>
    have d1 : decide ((65536 : Int) < (la : Int) + (lb : Int)) = true := decide_eq_true (by omega)
    have hz : (decide (la + lb ≤ 65536) && rdIs R at') = false := by rw [decide_eq_false hl, Bool.false_and]
    rw [hz]
    clear hz hl
    go_wp2
    go_ret
    exact ⟨rfl, HB.out.1⟩
  case pos =>
    have d1 : decide ((65536 : Int) < (la : Int) + (lb : Int)) = false := decide_eq_false (by omega)
    rw [decide_eq_true hl, Bool.true_and]
    have b1 : (1 : Int) ≤ (lb : Int) := by
      have h9 := HLB.out
      rw [List.length_cons] at h9
      omega
    have s0 : w1.drew.cell? ⟨w.heap.size, 1, none⟩ = some (.string ⟨at'.toArray⟩) ∧ w1.drew.cell? ⟨w.heap.size + 1, 1, none⟩ = some (.string ⟨(c :: x).toArray⟩) := ⟨p1, q1⟩
    clear hl
    obtain ⟨k', u', v', cd, hrv, hcd⟩ := hform
    rw [hrv] at HRD
    clear hrv
    go_wp2_with fail
    refine wp_region_heldX (S := fun W => (W.cell? ⟨w.heap.size, 1, none⟩ = some (.string ⟨at'.toArray⟩) ∧ W.cell? ⟨w.heap.size + 1, 1, none⟩ = some (.string ⟨(c :: x).toArray⟩))) (by kernel_rfl) s0 (fun hHeld => ?_)
    refine wpAnyH_take (i := 0) (v := .pointer (some ⟨w.heap.size, 1, none⟩)) rfl (by kernel_rfl) (by kernel_rfl) (by kernel_rfl) (fun _ _ _ h => h) (Or.inl ⟨by rfl, by (intro W9 hSw; obtain ⟨t0, t1⟩ := hSw; go_simp; try with_reducible rfl)⟩) (by assumption) ?_
    simp only [List.getElem_toArray, List.getElem_cons_zero, List.getElem_cons_succ, Act.put, List.setIfInBounds_toArray, List.set_cons_zero, List.set_cons_succ]
    refine wpAnyH_take (i := 1) (v := .string ⟨at'.toArray⟩) rfl (by kernel_rfl) (by kernel_rfl) (by kernel_rfl) (fun _ _ _ h => h) (Or.inl ⟨by rfl, by (intro W9 hSw; obtain ⟨t0, t1⟩ := hSw; go_simp; try with_reducible rfl)⟩) (by assumption) ?_
    simp only [List.getElem_toArray, List.getElem_cons_zero, List.getElem_cons_succ, Act.put, List.setIfInBounds_toArray, List.set_cons_zero, List.set_cons_succ]
    refine wpAnyH_take (i := 2) (v := .pointer (some ⟨w.heap.size + 1, 1, none⟩)) rfl (by kernel_rfl) (by kernel_rfl) (by kernel_rfl) (fun _ _ _ h => h) (Or.inl ⟨by rfl, by (intro W9 hSw; obtain ⟨t0, t1⟩ := hSw; go_simp; try with_reducible rfl)⟩) (by assumption) ?_
    simp only [List.getElem_toArray, List.getElem_cons_zero, List.getElem_cons_succ, Act.put, List.setIfInBounds_toArray, List.set_cons_zero, List.set_cons_succ]
    refine wpAnyH_take (i := 3) (v := .string ⟨(c :: x).toArray⟩) rfl (by kernel_rfl) (by kernel_rfl) (by kernel_rfl) (fun _ _ _ h => h) (Or.inl ⟨by rfl, by (intro W9 hSw; obtain ⟨t0, t1⟩ := hSw; go_simp; try with_reducible rfl)⟩) (by assumption) ?_
    simp only [List.getElem_toArray, List.getElem_cons_zero, List.getElem_cons_succ, Act.put, List.setIfInBounds_toArray, List.set_cons_zero, List.set_cons_succ]
    refine wpAnyH_take (i := 4) (v := .string ⟨#[c]⟩) rfl (by kernel_rfl) (by kernel_rfl) (by kernel_rfl) (fun _ _ _ h => h) (Or.inl ⟨by rfl, by (intro W9 hSw; obtain ⟨t0, t1⟩ := hSw; go_simp; try with_reducible rfl)⟩) (by assumption) ?_
    simp only [List.getElem_toArray, List.getElem_cons_zero, List.getElem_cons_succ, Act.put, List.setIfInBounds_toArray, List.set_cons_zero, List.set_cons_succ]
    refine wpAnyH_take (i := 5) (v := .string ⟨y.toArray⟩) rfl (by kernel_rfl) (by kernel_rfl) (by kernel_rfl) (fun _ _ _ h => h) (Or.inl ⟨by rfl, by (intro W9 hSw; obtain ⟨t0, t1⟩ := hSw; go_simp; try with_reducible rfl)⟩) (by assumption) ?_
    simp only [List.getElem_toArray, List.getElem_cons_zero, List.getElem_cons_succ, Act.put, List.setIfInBounds_toArray, List.set_cons_zero, List.set_cons_succ]
    refine wpAnyH_ready (rs := [6, 10]) (by kernel_rfl) (by simp) (AllReadyH.cons rfl (fun KK9 hK => ?_) (AllReadyH.cons rfl (fun KK9 hK => ?_) AllReadyH.nil))
    all_goals dsimp -proj only [List.getElem_toArray, List.getElem_cons_zero, List.getElem_cons_succ]
    · go_simp
      go_at_call 46
      refine (HRD.out _ (Below.refl _ w1).drew).mono ?_
      rintro e9 w9 ⟨rfl, hb9, s9⟩
      try go_wp2_with fail
      refine hK.out _ _ s9 (fun hHeld => ?_)
      clear hK KK9
      try simp only [Act.put, List.setIfInBounds_toArray, List.set_cons_zero, List.set_cons_succ]
      refine wpAnyH_take (i := 7) (v := .tuple #[.agg #[.int .i64 k', .string ⟨u'.toArray⟩, .int .u64 (v' : Int), .int .i64 0, .int .i64 0], .int .i64 cd]) rfl (by kernel_rfl) (by kernel_rfl) (by kernel_rfl) (fun _ _ _ h => h) (Or.inl ⟨by rfl, by (intro W9 hSw; obtain ⟨t0, t1⟩ := hSw; go_simp; try with_reducible rfl)⟩) (by assumption) ?_
      simp only [List.getElem_toArray, List.getElem_cons_zero, List.getElem_cons_succ, Act.put, List.setIfInBounds_toArray, List.set_cons_zero, List.set_cons_succ]
      refine wpAnyH_take (i := 8) (v := .agg #[.int .i64 k', .string ⟨u'.toArray⟩, .int .u64 (v' : Int), .int .i64 0, .int .i64 0]) rfl (by kernel_rfl) (by kernel_rfl) (by kernel_rfl) (fun _ _ _ h => h) (Or.inl ⟨by rfl, by (intro W9 hSw; obtain ⟨t0, t1⟩ := hSw; go_simp; try with_reducible rfl)⟩) (by assumption) ?_
      simp only [List.getElem_toArray, List.getElem_cons_zero, List.getElem_cons_succ, Act.put, List.setIfInBounds_toArray, List.set_cons_zero, List.set_cons_succ]
      refine wpAnyH_take (i := 9) (v := .int .i64 cd) rfl (by kernel_rfl) (by kernel_rfl) (by kernel_rfl) (fun _ _ _ h => h) (Or.inl ⟨by rfl, by (intro W9 hSw; obtain ⟨t0, t1⟩ := hSw; go_simp; try with_reducible rfl)⟩) (by assumption) ?_
      simp only [List.getElem_toArray, List.getElem_cons_zero, List.getElem_cons_succ, Act.put, List.setIfInBounds_toArray, List.set_cons_zero, List.set_cons_succ]
      refine wpAnyH_ready (rs := [10]) (by kernel_rfl) (by simp) (AllReadyH.cons rfl (fun KK9 hK => ?_) AllReadyH.nil)
      all_goals dsimp -proj only [List.getElem_toArray, List.getElem_cons_zero, List.getElem_cons_succ]
      go_simp
      obtain ⟨wz, hwz⟩ : ∃ wz, w9.alloc (.cells #[.int .i64 0, .string ⟨#[]⟩, .int .u64 0, .int .i64 0, .int .i64 0] 40) = wz := ⟨_, rfl⟩
      have hbz9 : Below w9.heap.size w9 wz := by rw [← hwz]; exact (Below.refl _ w9).alloc (Nat.le_refl _) _
      have hb19 : Below w1.heap.size w1 w9 := (Below.refl _ w1).drew.trans hb9
      have l1 := (Array.getElem?_eq_some_iff.1 HB.out.2.1).1
      have l2 := (Array.getElem?_eq_some_iff.1 HB.out.2.2.1).1
      have l3 := hb19.size
      have HZ : Hid (wz.heap[w9.heap.size]? = some (.cells #[.int .i64 0, .string ⟨#[]⟩, .int .u64 0, .int .i64 0, .int .i64 0] 40 (0, 0)) ∧ (Below w.heap.size w wz ∧ w.heap.size ≤ w9.heap.size) ∧ (wz.cell? ⟨w.heap.size, 1, none⟩ = some (.string ⟨at'.toArray⟩) ∧ wz.cell? ⟨w.heap.size + 1, 1, none⟩ = some (.string ⟨(c :: x).toArray⟩)) ∧ w.heap.size ≠ w9.heap.size ∧ w.heap.size + 1 ≠ w9.heap.size) := ⟨by rw [← hwz]; exact World.alloc_heap_new w9 _, ⟨(HB.out.1.trans (hb19.mono HB.out.1.size)).trans (hbz9.mono (by omega)), by omega⟩, ⟨(World.cell?_of_block (a := ⟨w.heap.size, 1, none⟩) (hbz9.block w.heap.size (by omega))).trans s9.1, (World.cell?_of_block (a := ⟨w.heap.size + 1, 1, none⟩) (hbz9.block (w.heap.size + 1) (by omega))).trans s9.2⟩, by omega, by omega⟩
      show KK9 _ (w9.alloc (.cells #[.int .i64 0, .string ⟨#[]⟩, .int .u64 0, .int .i64 0, .int .i64 0] 40))
      rw [hwz]
      obtain ⟨bx, hbx⟩ : ∃ bx, w9.heap.size = bx := ⟨_, rfl⟩
      rw [hbx] at HZ ⊢
      clear hwz hbz9 hb19 l1 l2 l3 hbx s9 hb9
      refine hK.out _ _ HZ.out.2.2.1 (fun hHeld => ?_)
      clear hK KK9
      try simp only [Act.put, List.setIfInBounds_toArray, List.set_cons_zero, List.set_cons_succ]
      refine wpAnyH_ready (rs := [11]) (by kernel_rfl) (by simp) (AllReadyH.cons rfl (fun KK9 hK => ?_) AllReadyH.nil)
      all_goals dsimp -proj only [List.getElem_toArray, List.getElem_cons_zero, List.getElem_cons_succ]
      obtain ⟨f0, f1, f2, f3, f4⟩ := cells5 HZ.out.1
      have z0 := frz5 HZ.out.1 0
      have z1 := frz5 HZ.out.1 1
      have z2 := frz5 HZ.out.1 2
      have z3 := frz5 HZ.out.1 3
      have z4 := frz5 HZ.out.1 4
      go_simp
      obtain ⟨wf, hwf⟩ : ∃ wf, ((((wz.setCell ⟨bx, 0, none⟩ (.int .i64 k')).setCell ⟨bx, 1, none⟩ (.string ⟨u'.toArray⟩)).setCell ⟨bx, 2, none⟩ (.int .u64 (v' : Int))).setCell ⟨bx, 3, none⟩ (.int .i64 0)).setCell ⟨bx, 4, none⟩ (.int .i64 0) = wf := ⟨_, rfl⟩
      obtain ⟨r1, r2, r3, r4⟩ := put5 HZ.out.1 _ _ _ _ _ wf hwf
      rw [hwf]
      have SF : (wf.cell? ⟨w.heap.size, 1, none⟩ = some (.string ⟨at'.toArray⟩) ∧ wf.cell? ⟨w.heap.size + 1, 1, none⟩ = some (.string ⟨(c :: x).toArray⟩)) := ⟨(World.cell?_of_block (r2 _ HZ.out.2.2.2.1)).trans HZ.out.2.2.1.1, (World.cell?_of_block (r2 _ HZ.out.2.2.2.2)).trans HZ.out.2.2.1.2⟩
      have HF : Hid (wf.heap[bx]? = some (.cells #[.int .i64 k', .string ⟨u'.toArray⟩, .int .u64 (v' : Int), .int .i64 0, .int .i64 0] 40 (0, 0)) ∧ Below w.heap.size w wf ∧ (wf.cell? ⟨w.heap.size, 1, none⟩ = some (.string ⟨at'.toArray⟩) ∧ wf.cell? ⟨w.heap.size + 1, 1, none⟩ = some (.string ⟨(c :: x).toArray⟩))) := ⟨r1, r3 _ _ HZ.out.2.1.1 HZ.out.2.1.2, SF⟩
      clear hwf r1 r2 r3 r4 f0 f1 f2 f3 f4 z0 z1 z2 z3 z4
      refine hK.out _ _ SF (fun hHeld => ?_)
      clear hK KK9
      try simp only [Act.put, List.setIfInBounds_toArray, List.set_cons_zero, List.set_cons_succ]
      refine wpAnyH_ready (rs := [12]) (by kernel_rfl) (by simp) (AllReadyH.cons rfl (fun KK9 hK => ?_) AllReadyH.nil)
      all_goals dsimp -proj only [List.getElem_toArray, List.getElem_cons_zero, List.getElem_cons_succ]
      go_simp
      refine hK.out _ _ SF (fun hHeld => ?_)
      clear hK KK9
      try simp only [Act.put, List.setIfInBounds_toArray, List.set_cons_zero, List.set_cons_succ]
      refine wpAnyH_done (by kernel_rfl) ?_ _
      obtain ⟨_, f1, _⟩ := cells5 HF.out.1
      obtain ⟨p9, q9⟩ := HF.out.2.2
      clear hHeld p1 q1 s0
      rcases hcd with ⟨rfl, hcd⟩ | ⟨hce, hcd⟩
      · go_wp2
        go_ret
        exact ⟨by rw [hcd]; simp; exact bs_beq u' at', HF.out.2.1⟩
      · go_wp2
        go_ret
        exact ⟨by rw [hcd]; simp, HF.out.2.1⟩
    · go_simp
      obtain ⟨wy, hwy⟩ : ∃ wy, w1.drew.alloc (.cells #[.int .i64 0, .string ⟨#[]⟩, .int .u64 0, .int .i64 0, .int .i64 0] 40) = wy := ⟨_, rfl⟩
      have hby : Below w1.heap.size w1 wy := by rw [← hwy]; exact (Below.refl _ w1).drew.alloc (Nat.le_refl _) _
      have hyb : wy.heap[w1.heap.size]? = some (.cells #[.int .i64 0, .string ⟨#[]⟩, .int .u64 0, .int .i64 0, .int .i64 0] 40 (0, 0)) := by rw [← hwy]; exact World.alloc_heap_new w1.drew _
      have l1 := (Array.getElem?_eq_some_iff.1 HB.out.2.1).1
      have l2 := (Array.getElem?_eq_some_iff.1 HB.out.2.2.1).1
      have sy : (wy.cell? ⟨w.heap.size, 1, none⟩ = some (.string ⟨at'.toArray⟩) ∧ wy.cell? ⟨w.heap.size + 1, 1, none⟩ = some (.string ⟨(c :: x).toArray⟩)) := ⟨(World.cell?_of_block (hby.block _ l1)).trans p1, (World.cell?_of_block (hby.block _ l2)).trans q1⟩
      show KK9 _ (w1.drew.alloc (.cells #[.int .i64 0, .string ⟨#[]⟩, .int .u64 0, .int .i64 0, .int .i64 0] 40))
      rw [hwy]
      have HY : Hid (Below w1.heap.size w1 wy ∧ wy.heap[w1.heap.size]? = some (.cells #[.int .i64 0, .string ⟨#[]⟩, .int .u64 0, .int .i64 0, .int .i64 0] 40 (0, 0)) ∧ w.heap.size < w1.heap.size ∧ w.heap.size + 1 < w1.heap.size) := ⟨hby, hyb, l1, l2⟩
      clear hwy hby hyb l1 l2
      refine hK.out _ _ sy (fun hHeld => ?_)
      clear hK KK9
      try simp only [Act.put, List.setIfInBounds_toArray, List.set_cons_zero, List.set_cons_succ]
      refine wpAnyH_ready (rs := [6]) (by kernel_rfl) (by simp) (AllReadyH.cons rfl (fun KK9 hK => ?_) AllReadyH.nil)
      all_goals dsimp -proj only [List.getElem_toArray, List.getElem_cons_zero, List.getElem_cons_succ]
      go_simp
      go_at_call 46
      refine (HRD.out _ HY.out.1).mono ?_
      rintro e9 wz ⟨rfl, hb9, s9⟩
      try go_wp2_with fail
      have lz := (Array.getElem?_eq_some_iff.1 HY.out.2.1).1
      have hb1z : Below w1.heap.size w1 wz := HY.out.1.trans (hb9.mono HY.out.1.size)
      have HZ : Hid (wz.heap[w1.heap.size]? = some (.cells #[.int .i64 0, .string ⟨#[]⟩, .int .u64 0, .int .i64 0, .int .i64 0] 40 (0, 0)) ∧ (Below w.heap.size w wz ∧ w.heap.size ≤ w1.heap.size) ∧ (wz.cell? ⟨w.heap.size, 1, none⟩ = some (.string ⟨at'.toArray⟩) ∧ wz.cell? ⟨w.heap.size + 1, 1, none⟩ = some (.string ⟨(c :: x).toArray⟩)) ∧ w.heap.size ≠ w1.heap.size ∧ w.heap.size + 1 ≠ w1.heap.size) := ⟨(hb9.block _ lz).trans HY.out.2.1, ⟨HB.out.1.trans (hb1z.mono HB.out.1.size), by have := HY.out.2.2; omega⟩, s9, by have := HY.out.2.2; omega, by have := HY.out.2.2; omega⟩
      clear lz hb1z hb9
      refine hK.out _ _ s9 (fun hHeld => ?_)
      clear hK KK9
      try simp only [Act.put, List.setIfInBounds_toArray, List.set_cons_zero, List.set_cons_succ]
      refine wpAnyH_take (i := 7) (v := .tuple #[.agg #[.int .i64 k', .string ⟨u'.toArray⟩, .int .u64 (v' : Int), .int .i64 0, .int .i64 0], .int .i64 cd]) rfl (by kernel_rfl) (by kernel_rfl) (by kernel_rfl) (fun _ _ _ h => h) (Or.inl ⟨by rfl, by (intro W9 hSw; obtain ⟨t0, t1⟩ := hSw; go_simp; try with_reducible rfl)⟩) (by assumption) ?_
      simp only [List.getElem_toArray, List.getElem_cons_zero, List.getElem_cons_succ, Act.put, List.setIfInBounds_toArray, List.set_cons_zero, List.set_cons_succ]
      refine wpAnyH_take (i := 8) (v := .agg #[.int .i64 k', .string ⟨u'.toArray⟩, .int .u64 (v' : Int), .int .i64 0, .int .i64 0]) rfl (by kernel_rfl) (by kernel_rfl) (by kernel_rfl) (fun _ _ _ h => h) (Or.inl ⟨by rfl, by (intro W9 hSw; obtain ⟨t0, t1⟩ := hSw; go_simp; try with_reducible rfl)⟩) (by assumption) ?_
      simp only [List.getElem_toArray, List.getElem_cons_zero, List.getElem_cons_succ, Act.put, List.setIfInBounds_toArray, List.set_cons_zero, List.set_cons_succ]
      refine wpAnyH_take (i := 9) (v := .int .i64 cd) rfl (by kernel_rfl) (by kernel_rfl) (by kernel_rfl) (fun _ _ _ h => h) (Or.inl ⟨by rfl, by (intro W9 hSw; obtain ⟨t0, t1⟩ := hSw; go_simp; try with_reducible rfl)⟩) (by assumption) ?_
      simp only [List.getElem_toArray, List.getElem_cons_zero, List.getElem_cons_succ, Act.put, List.setIfInBounds_toArray, List.set_cons_zero, List.set_cons_succ]
      obtain ⟨bx, hbx⟩ : ∃ bx, w1.heap.size = bx := ⟨_, rfl⟩
      rw [hbx] at HZ
      try rw [hbx]
      clear hbx
      refine wpAnyH_ready (rs := [11]) (by kernel_rfl) (by simp) (AllReadyH.cons rfl (fun KK9 hK => ?_) AllReadyH.nil)
      all_goals dsimp -proj only [List.getElem_toArray, List.getElem_cons_zero, List.getElem_cons_succ]
      obtain ⟨f0, f1, f2, f3, f4⟩ := cells5 HZ.out.1
      have z0 := frz5 HZ.out.1 0
      have z1 := frz5 HZ.out.1 1
      have z2 := frz5 HZ.out.1 2
      have z3 := frz5 HZ.out.1 3
      have z4 := frz5 HZ.out.1 4
      go_simp
      obtain ⟨wf, hwf⟩ : ∃ wf, ((((wz.setCell ⟨bx, 0, none⟩ (.int .i64 k')).setCell ⟨bx, 1, none⟩ (.string ⟨u'.toArray⟩)).setCell ⟨bx, 2, none⟩ (.int .u64 (v' : Int))).setCell ⟨bx, 3, none⟩ (.int .i64 0)).setCell ⟨bx, 4, none⟩ (.int .i64 0) = wf := ⟨_, rfl⟩
      obtain ⟨r1, r2, r3, r4⟩ := put5 HZ.out.1 _ _ _ _ _ wf hwf
      rw [hwf]
      have SF : (wf.cell? ⟨w.heap.size, 1, none⟩ = some (.string ⟨at'.toArray⟩) ∧ wf.cell? ⟨w.heap.size + 1, 1, none⟩ = some (.string ⟨(c :: x).toArray⟩)) := ⟨(World.cell?_of_block (r2 _ HZ.out.2.2.2.1)).trans HZ.out.2.2.1.1, (World.cell?_of_block (r2 _ HZ.out.2.2.2.2)).trans HZ.out.2.2.1.2⟩
      have HF : Hid (wf.heap[bx]? = some (.cells #[.int .i64 k', .string ⟨u'.toArray⟩, .int .u64 (v' : Int), .int .i64 0, .int .i64 0] 40 (0, 0)) ∧ Below w.heap.size w wf ∧ (wf.cell? ⟨w.heap.size, 1, none⟩ = some (.string ⟨at'.toArray⟩) ∧ wf.cell? ⟨w.heap.size + 1, 1, none⟩ = some (.string ⟨(c :: x).toArray⟩))) := ⟨r1, r3 _ _ HZ.out.2.1.1 HZ.out.2.1.2, SF⟩
      clear hwf r1 r2 r3 r4 f0 f1 f2 f3 f4 z0 z1 z2 z3 z4
      refine hK.out _ _ SF (fun hHeld => ?_)
      clear hK KK9
      try simp only [Act.put, List.setIfInBounds_toArray, List.set_cons_zero, List.set_cons_succ]
      refine wpAnyH_ready (rs := [12]) (by kernel_rfl) (by simp) (AllReadyH.cons rfl (fun KK9 hK => ?_) AllReadyH.nil)
      all_goals dsimp -proj only [List.getElem_toArray, List.getElem_cons_zero, List.getElem_cons_succ]
      go_simp
      refine hK.out _ _ SF (fun hHeld => ?_)
      clear hK KK9
      try simp only [Act.put, List.setIfInBounds_toArray, List.set_cons_zero, List.set_cons_succ]
      refine wpAnyH_done (by kernel_rfl) ?_ _
      obtain ⟨_, f1, _⟩ := cells5 HF.out.1
      obtain ⟨p9, q9⟩ := HF.out.2.2
      clear hHeld p1 q1 s0
      rcases hcd with ⟨rfl, hcd⟩ | ⟨hce, hcd⟩
      · go_wp2
        go_ret
        exact ⟨by rw [hcd]; simp; exact bs_beq u' at', HF.out.2.1⟩
      · go_wp2
        go_ret
        exact ⟨by rw [hcd]; simp, HF.out.2.1⟩
end Go.Proofs.YtmekcccmnkgodaaGreatDoor
