import Derived.Test.YtopggemomcoalaaGreatJM3
import Derived.Test.YtopggemomcoalaaGreatJV4
namespace Go.Proofs.YtopggemomcoalaaGreat
open Go.ChangeShapes Go.WideShapes Go.ChangeAt Go.RowKit
set_option linter.unusedVariables false

structure Cl where
  time : Int
  src : Int
  seq : Int
  dst : Int
  kind : Int
  data : Int
  look : Int
  parts : Int
  fuel : Int
structure CC (C : Nat → Value) (cl : Cl) (code : Value) : Prop where
  code : C 0 = code
  time : C 1 = .int .u64 cl.time
  src : C 2 = .int .i64 cl.src
  seq : C 3 = .int .u64 cl.seq
  dst : C 4 = .int .i64 cl.dst
  kind : C 5 = .int .i64 cl.kind
  data : C 6 = .int .i64 cl.data
  look : C 10 = .int .u64 cl.look
  parts : C 11 = .int .i64 cl.parts
  fuel : C 12 = .int .i64 cl.fuel
  pair : ∀ o, isPair o → C (13 + o.toNat) = .func (.func (pairF o)) #[] #[]
theorem MW.word' {w0 w : World} {base mb nw : Nat} {C : Nat → Value} {M : Mc} (h : MW w0 w base mb nw C M) {k : Nat} (hk : k < nw) {g c : Nat} {v : Value} (hv : v = .slice (some ⟨g, 0, none⟩) nw c) (e : M.wv = v := by rfl) : w.cell? ⟨g, k, none⟩ = some (.int .i64 (M.wd k)) ∧ w.frozen? ⟨g, k, none⟩ = false := by
  have ho := h.wr
  rw [e, hv] at ho
  obtain ⟨cur, h4, _⟩ := ho.block
  exact ⟨ho.cell (by omega), by simp [World.frozen?, h4]⟩
theorem MW.setWord {w0 w : World} {base mb nw : Nat} {C : Nat → Value} {M : Mc} (h : MW w0 w base mb nw C M) {k : Nat} (hk : k < nw) {g c : Nat} {v : Value} (hv : v = .slice (some ⟨g, 0, none⟩) nw c) (x : Int) (e : M.wv = v := by rfl) : MW w0 (w.setCell ⟨g, k, none⟩ (.int .i64 x)) base mb nw C { M with wd := updI M.wd k x } := by
  have ho := h.wr
  have hg : M.wv.ownBlock = some g := by rw [e, hv]; rfl
  rw [e, hv] at ho
  obtain ⟨cur, h4, _, _, _, hbg, _⟩ := ho.block
  have n1 : mb ≠ g := fun e' => h.d1 (by rw [hg, e'])
  refine ⟨h.box.far (Below.heap_setCell _ _ _ _ n1), ?_, h.out.far fun k' hk' => Below.heap_setCell _ _ _ _ (by rintro rfl; exact h.d3 _ hg hk'), h.d1, h.d2, h.d3, h.bel.setCell (p := ⟨g, k, none⟩) hbg _⟩
  show Own _ base 2 1 M.wv nw (iv (updI M.wd k x))
  rw [e, hv]
  refine (ho.put k [.int .i64 x]).congr fun j hj => ?_
  unfold putF iv updI
  by_cases e2 : j = k
  · subst e2; simp
  · rw [if_neg (by simp; omega), if_neg e2]
theorem MW.word {w0 w : World} {base mb nw : Nat} {C : Nat → Value} {M : Mc} (h : MW w0 w base mb nw C M) {k : Nat} (hk : k < nw) : ∃ g c, M.wv = .slice (some ⟨g, 0, none⟩) nw c ∧ (w.cell? ⟨g, k, none⟩ = some (.int .i64 (M.wd k)) ∧ w.frozen? ⟨g, k, none⟩ = false) ∧ g < w.heap.size ∧ g ≠ mb := by
  rcases h.wr.form with ⟨h1, h2⟩ | ⟨g, c, h1, h2, h3⟩
  · omega
  · have ho := h.wr
    rw [h1] at ho
    obtain ⟨cur, h4, _⟩ := ho.block
    exact ⟨g, c, h1, ⟨ho.cell (by omega), by simp [World.frozen?, h4]⟩, h3, fun e => h.d1 (by rw [h1, e]; rfl)⟩
theorem MW.fix {w0 w : World} {base mb nw : Nat} {C : Nat → Value} {M : Mc} (h : MW w0 w base mb nw C M) {k : Nat} (hk : k < 55) {v : Value} (hv : C k = v) : w.cell? ⟨mb, k, none⟩ = some v := (h.box.cell k (by omega)).trans (by rw [mF_fix _ _ hk, hv])
/-- an instruction's box -/
theorem inbox (w : World) (o a b : Int) (wb : World) (h : w.alloc (.cells #[.int .i64 o, .int .i64 a, .int .i64 b] 36) = wb) : Below w.heap.size w wb ∧ wb.heap[w.heap.size]? = some (.cells #[.int .i64 o, .int .i64 a, .int .i64 b] 36 (0, 0)) ∧ wb.heap.size = w.heap.size + 1 := by
  subst h
  exact ⟨(Below.refl _ w).alloc (Nat.le_refl _) _, World.alloc_heap_new w _, World.size_alloc w _⟩
theorem only_keeps {mb : Nat} {w w' : World} (h : Only mb w w') {k : Nat} (hk : k ≠ mb) {i : Nat} {v : Value} (hc : w.cell? ⟨k, i, none⟩ = some v) : w'.cell? ⟨k, i, none⟩ = some v := (World.cell?_of_block (h.far k hk)).trans hc
/-- what an instruction comes to: its fault, or the machine behind it -/
def RS (w0 w' : World) (base mb nw : Nat) (C : Nat → Value) (M : Mc) (f : Int) (M' : Mc) : Prop := (f = 0 → MW w0 w' base mb nw C M') ∧ (f ≠ 0 → ∃ M2, MW w0 w' base mb nw C M2 ∧ M2.used = M.used)
set_option maxRecDepth 100000 in
set_option maxHeartbeats 4000000 in
theorem do_1 (w0 w : World) (base mb nw : Nat) (C : Nat → Value) (M : Mc) (cl : Cl) (code : Value) (hC : CC C cl code) (a b : Int) (h : MW w0 w base mb nw C M) (hh : M.hi < 64) :
    Calls Tryz.prog 80 #[.pointer (some ⟨mb, 0, none⟩), .agg #[.int .i64 1, .int .i64 a, .int .i64 b]] w fun e w' => e = .returned (.int .i64 0) ∧ RS w0 w' base mb nw C M 0 (pushM M a) := by
  obtain ⟨wb, hwb⟩ : ∃ wb, w.alloc (.cells #[.int .i64 1, .int .i64 a, .int .i64 b] 36) = wb := ⟨_, rfl⟩
  obtain ⟨hbb, hbx, hsz⟩ := inbox w 1 a b wb hwb
  have HB : Hid (w.alloc (.cells #[.int .i64 1, .int .i64 a, .int .i64 b] 36) = wb) := hwb
  have hlt := h.box.lt.1
  have hb := h.later hbb
  clear hwb
  go_enter Tryz.func80, Tryz.ntmps80
  have HP := pushW w0 wb base mb nw C M a hb hh
  go_wp2_with ((go_at_call 98; rw [HB.out]; (with_reducible refine HP.mono ?_); rintro e w1 ⟨rfl, o1, m1⟩))
  go_ret
  exact ⟨rfl, fun _ => m1, fun h => absurd rfl h⟩
set_option maxRecDepth 100000 in
set_option maxHeartbeats 4000000 in
theorem do_2 (w0 w : World) (base mb nw : Nat) (C : Nat → Value) (M : Mc) (cl : Cl) (code : Value) (hC : CC C cl code) (a b : Int) (h : MW w0 w base mb nw C M) (hh : 0 < M.hi) (h64 : M.hi ≤ 64) :
    Calls Tryz.prog 80 #[.pointer (some ⟨mb, 0, none⟩), .agg #[.int .i64 2, .int .i64 a, .int .i64 b]] w fun e w' => e = .returned (.int .i64 0) ∧ RS w0 w' base mb nw C M 0 (popM M) := by
  obtain ⟨wb, hwb⟩ : ∃ wb, w.alloc (.cells #[.int .i64 2, .int .i64 a, .int .i64 b] 36) = wb := ⟨_, rfl⟩
  obtain ⟨hbb, hbx, hsz⟩ := inbox w 2 a b wb hwb
  have HB : Hid (w.alloc (.cells #[.int .i64 2, .int .i64 a, .int .i64 b] 36) = wb) := hwb
  have hlt := h.box.lt.1
  have hb := h.later hbb
  clear hwb
  go_enter Tryz.func80, Tryz.ntmps80
  have HP := popW w0 wb base mb nw C M hb hh h64
  go_wp2_with ((go_at_call 79; rw [HB.out]; (with_reducible refine HP.mono ?_); rintro e w1 ⟨rfl, o1, m1⟩))
  go_ret
  exact ⟨rfl, fun _ => m1, fun h => absurd rfl h⟩
set_option maxRecDepth 100000 in
set_option maxHeartbeats 4000000 in
theorem do_9 (w0 w : World) (base mb nw : Nat) (C : Nat → Value) (M : Mc) (cl : Cl) (code : Value) (hC : CC C cl code) (a b : Int) (h : MW w0 w base mb nw C M) (hh : M.hi < 64) :
    Calls Tryz.prog 80 #[.pointer (some ⟨mb, 0, none⟩), .agg #[.int .i64 9, .int .i64 a, .int .i64 b]] w fun e w' => e = .returned (.int .i64 0) ∧ RS w0 w' base mb nw C M 0 (pushM M cl.data) := by
  obtain ⟨wb, hwb⟩ : ∃ wb, w.alloc (.cells #[.int .i64 9, .int .i64 a, .int .i64 b] 36) = wb := ⟨_, rfl⟩
  obtain ⟨hbb, hbx, hsz⟩ := inbox w 9 a b wb hwb
  have HB : Hid (w.alloc (.cells #[.int .i64 9, .int .i64 a, .int .i64 b] 36) = wb) := hwb
  have hlt := h.box.lt.1
  have hb := h.later hbb
  clear hwb
  go_enter Tryz.func80, Tryz.ntmps80
  have cf := hb.fix (k := 6) (by decide) hC.data
  have cf' : (w.alloc (.cells #[.int .i64 9, .int .i64 a, .int .i64 b] 36)).cell? ⟨mb, 6, none⟩ = some (.int .i64 cl.data) := by rw [HB.out]; exact cf
  have HP := pushW w0 wb base mb nw C M cl.data hb hh
  go_wp2_with ((go_at_call 98; rw [HB.out]; (with_reducible refine HP.mono ?_); rintro e w1 ⟨rfl, o1, m1⟩))
  go_ret
  exact ⟨rfl, fun _ => m1, fun h => absurd rfl h⟩
set_option maxRecDepth 100000 in
set_option maxHeartbeats 4000000 in
theorem do_11 (w0 w : World) (base mb nw : Nat) (C : Nat → Value) (M : Mc) (cl : Cl) (code : Value) (hC : CC C cl code) (a b : Int) (h : MW w0 w base mb nw C M) (hh : M.hi < 64) :
    Calls Tryz.prog 80 #[.pointer (some ⟨mb, 0, none⟩), .agg #[.int .i64 11, .int .i64 a, .int .i64 b]] w fun e w' => e = .returned (.int .i64 0) ∧ RS w0 w' base mb nw C M 0 (pushM M cl.dst) := by
  obtain ⟨wb, hwb⟩ : ∃ wb, w.alloc (.cells #[.int .i64 11, .int .i64 a, .int .i64 b] 36) = wb := ⟨_, rfl⟩
  obtain ⟨hbb, hbx, hsz⟩ := inbox w 11 a b wb hwb
  have HB : Hid (w.alloc (.cells #[.int .i64 11, .int .i64 a, .int .i64 b] 36) = wb) := hwb
  have hlt := h.box.lt.1
  have hb := h.later hbb
  clear hwb
  go_enter Tryz.func80, Tryz.ntmps80
  have cf := hb.fix (k := 4) (by decide) hC.dst
  have cf' : (w.alloc (.cells #[.int .i64 11, .int .i64 a, .int .i64 b] 36)).cell? ⟨mb, 4, none⟩ = some (.int .i64 cl.dst) := by rw [HB.out]; exact cf
  have HP := pushW w0 wb base mb nw C M cl.dst hb hh
  go_wp2_with ((go_at_call 98; rw [HB.out]; (with_reducible refine HP.mono ?_); rintro e w1 ⟨rfl, o1, m1⟩))
  go_ret
  exact ⟨rfl, fun _ => m1, fun h => absurd rfl h⟩
set_option maxRecDepth 100000 in
set_option maxHeartbeats 4000000 in
theorem do_12 (w0 w : World) (base mb nw : Nat) (C : Nat → Value) (M : Mc) (cl : Cl) (code : Value) (hC : CC C cl code) (a b : Int) (h : MW w0 w base mb nw C M) (hh : M.hi < 64) :
    Calls Tryz.prog 80 #[.pointer (some ⟨mb, 0, none⟩), .agg #[.int .i64 12, .int .i64 a, .int .i64 b]] w fun e w' => e = .returned (.int .i64 0) ∧ RS w0 w' base mb nw C M 0 (pushM M cl.src) := by
  obtain ⟨wb, hwb⟩ : ∃ wb, w.alloc (.cells #[.int .i64 12, .int .i64 a, .int .i64 b] 36) = wb := ⟨_, rfl⟩
  obtain ⟨hbb, hbx, hsz⟩ := inbox w 12 a b wb hwb
  have HB : Hid (w.alloc (.cells #[.int .i64 12, .int .i64 a, .int .i64 b] 36) = wb) := hwb
  have hlt := h.box.lt.1
  have hb := h.later hbb
  clear hwb
  go_enter Tryz.func80, Tryz.ntmps80
  have cf := hb.fix (k := 2) (by decide) hC.src
  have cf' : (w.alloc (.cells #[.int .i64 12, .int .i64 a, .int .i64 b] 36)).cell? ⟨mb, 2, none⟩ = some (.int .i64 cl.src) := by rw [HB.out]; exact cf
  have HP := pushW w0 wb base mb nw C M cl.src hb hh
  go_wp2_with ((go_at_call 98; rw [HB.out]; (with_reducible refine HP.mono ?_); rintro e w1 ⟨rfl, o1, m1⟩))
  go_ret
  exact ⟨rfl, fun _ => m1, fun h => absurd rfl h⟩
set_option maxRecDepth 100000 in
set_option maxHeartbeats 4000000 in
theorem do_10 (w0 w : World) (base mb nw : Nat) (C : Nat → Value) (M : Mc) (cl : Cl) (code : Value) (hC : CC C cl code) (a b : Int) (h : MW w0 w base mb nw C M) (hh : M.hi < 64) :
    Calls Tryz.prog 80 #[.pointer (some ⟨mb, 0, none⟩), .agg #[.int .i64 10, .int .i64 a, .int .i64 b]] w fun e w' => e = .returned (.int .i64 0) ∧ RS w0 w' base mb nw C M 0 (pushM M (wrap64 cl.time)) := by
  obtain ⟨wb, hwb⟩ : ∃ wb, w.alloc (.cells #[.int .i64 10, .int .i64 a, .int .i64 b] 36) = wb := ⟨_, rfl⟩
  obtain ⟨hbb, hbx, hsz⟩ := inbox w 10 a b wb hwb
  have HB : Hid (w.alloc (.cells #[.int .i64 10, .int .i64 a, .int .i64 b] 36) = wb) := hwb
  have hlt := h.box.lt.1
  have hb := h.later hbb
  clear hwb
  go_enter Tryz.func80, Tryz.ntmps80
  have cf := hb.fix (k := 1) (by decide) hC.time
  have cf' : (w.alloc (.cells #[.int .i64 10, .int .i64 a, .int .i64 b] 36)).cell? ⟨mb, 1, none⟩ = some (.int .u64 cl.time) := by rw [HB.out]; exact cf
  have HP := pushW w0 wb base mb nw C M (wrap64 cl.time) hb hh
  go_wp2_with ((go_at_call 98; rw [HB.out]; (with_reducible refine HP.mono ?_); rintro e w1 ⟨rfl, o1, m1⟩))
  go_ret
  exact ⟨rfl, fun _ => m1, fun h => absurd rfl h⟩
set_option maxRecDepth 100000 in
set_option maxHeartbeats 4000000 in
theorem do_40 (w0 w : World) (base mb nw : Nat) (C : Nat → Value) (M : Mc) (cl : Cl) (code : Value) (hC : CC C cl code) (a b : Int) (h : MW w0 w base mb nw C M)  :
    Calls Tryz.prog 80 #[.pointer (some ⟨mb, 0, none⟩), .agg #[.int .i64 40, .int .i64 a, .int .i64 b]] w fun e w' => e = .returned (.int .i64 209) ∧ RS w0 w' base mb nw C M 209 (M) := by
  obtain ⟨wb, hwb⟩ : ∃ wb, w.alloc (.cells #[.int .i64 40, .int .i64 a, .int .i64 b] 36) = wb := ⟨_, rfl⟩
  obtain ⟨hbb, hbx, hsz⟩ := inbox w 40 a b wb hwb
  have HB : Hid (w.alloc (.cells #[.int .i64 40, .int .i64 a, .int .i64 b] 36) = wb) := hwb
  have hlt := h.box.lt.1
  have hb := h.later hbb
  clear hwb
  go_enter Tryz.func80, Tryz.ntmps80
  go_wp2
  go_ret
  exact ⟨rfl, fun h => (by cases h), fun _ => ⟨M, (by rw [HB.out]; exact hb), rfl⟩⟩
set_option maxRecDepth 100000 in
set_option maxHeartbeats 4000000 in
theorem do_3 (w0 w : World) (base mb nw : Nat) (C : Nat → Value) (M : Mc) (cl : Cl) (code : Value) (hC : CC C cl code) (a' : Nat) (b : Int) (h : MW w0 w base mb nw C M) (hh : M.hi < 64) (hA : a' < nw) :
    Calls Tryz.prog 80 #[.pointer (some ⟨mb, 0, none⟩), .agg #[.int .i64 3, .int .i64 (a' : Int), .int .i64 b]] w fun e w' => e = .returned (.int .i64 0) ∧ RS w0 w' base mb nw C M 0 (pushM M (M.wd a')) := by
  obtain ⟨wb, hwb⟩ : ∃ wb, w.alloc (.cells #[.int .i64 3, .int .i64 (a' : Int), .int .i64 b] 36) = wb := ⟨_, rfl⟩
  obtain ⟨hbb, hbx, hsz⟩ := inbox w 3 (a' : Int) b wb hwb
  have HB : Hid (w.alloc (.cells #[.int .i64 3, .int .i64 (a' : Int), .int .i64 b] 36) = wb) := hwb
  have hlt := h.box.lt.1
  have hb := h.later hbb
  clear hwb
  go_enter Tryz.func80, Tryz.ntmps80
  obtain ⟨gw, cw, hwv, hcell, hgl⟩ := hb.word hA
  have c55 : wb.cell? ⟨mb, 55, none⟩ = some (.slice (some ⟨gw, 0, none⟩) nw cw) := (hb.box.cell 55 (by omega)).trans (by rw [mF_wv, hwv])
  obtain ⟨b0, b1, b2⟩ := cells3 hbx
  have i0 : (0 : Int) ≤ (a' : Int) := by omega
  have i1 : (a' : Int) < (nw : Int) := by omega
  have HP := fun W hW => pushW w0 W base mb nw C M (M.wd a') hW hh
  have HBD : ∀ W, W = wb.drew → MW w0 W base mb nw C M := fun W e => by rw [e]; exact hb.later ⟨rfl, rfl, rfl, Nat.le_refl _, fun _ _ => rfl⟩
  go_wp2_with fail
  rw [HB.out]
  go_region_held3 (fun w' => w'.cell? ⟨mb, 55, none⟩ = some (.slice (some ⟨gw, 0, none⟩) nw cw) ∧ w'.cell? ⟨w.heap.size, 1, none⟩ = some (.int .i64 (a' : Int)) ∧ w'.cell? ⟨gw, a', none⟩ = some (.int .i64 (M.wd a'))) (first | exact KP | go_keep) ((go_at_call 98; (with_reducible refine (HP _ (HBD _ rfl)).mono ?_); rintro e w1 ⟨rfl, o1, m1⟩; have KP : w1.cell? ⟨mb, 55, none⟩ = some (.slice (some ⟨gw, 0, none⟩) nw cw) ∧ w1.cell? ⟨w.heap.size, 1, none⟩ = some (.int .i64 (a' : Int)) ∧ w1.cell? ⟨gw, a', none⟩ = some (.int .i64 (M.wd a')) := ⟨(m1.box.cell 55 (by omega)).trans (congrArg some hwv), only_keeps o1 (by omega) b1, only_keeps o1 hgl.2 hcell.1⟩))
  go_wp2
  go_ret
  exact ⟨rfl, fun _ => m1, fun h => absurd rfl h⟩
set_option maxRecDepth 100000 in
set_option maxHeartbeats 4000000 in
theorem do_4 (w0 w : World) (base mb nw : Nat) (C : Nat → Value) (M : Mc) (cl : Cl) (code : Value) (hC : CC C cl code) (a' : Nat) (b : Int) (h : MW w0 w base mb nw C M) (hh : 0 < M.hi) (h64 : M.hi ≤ 64) (hA : a' < nw) :
    Calls Tryz.prog 80 #[.pointer (some ⟨mb, 0, none⟩), .agg #[.int .i64 4, .int .i64 (a' : Int), .int .i64 b]] w fun e w' => e = .returned (.int .i64 0) ∧ RS w0 w' base mb nw C M 0 ({ popM M with wd := updI M.wd a' (topM M) }) := by
  obtain ⟨wb, hwb⟩ : ∃ wb, w.alloc (.cells #[.int .i64 4, .int .i64 (a' : Int), .int .i64 b] 36) = wb := ⟨_, rfl⟩
  obtain ⟨hbb, hbx, hsz⟩ := inbox w 4 (a' : Int) b wb hwb
  have HB : Hid (w.alloc (.cells #[.int .i64 4, .int .i64 (a' : Int), .int .i64 b] 36) = wb) := hwb
  have hlt := h.box.lt.1
  have hb := h.later hbb
  clear hwb
  go_enter Tryz.func80, Tryz.ntmps80
  obtain ⟨gw, cw, hwv, hcell, hgl⟩ := hb.word hA
  have c55 : wb.cell? ⟨mb, 55, none⟩ = some (.slice (some ⟨gw, 0, none⟩) nw cw) := (hb.box.cell 55 (by omega)).trans (by rw [mF_wv, hwv])
  obtain ⟨b0, b1, b2⟩ := cells3 hbx
  have i0 : (0 : Int) ≤ (a' : Int) := by omega
  have i1 : (a' : Int) < (nw : Int) := by omega
  have hgw : gw < w.heap.size := by
    obtain ⟨g2, c2, e2, _, e4, _⟩ := h.word hA
    rw [hwv] at e2
    injection e2 with e5 _ _
    injection e5 with e5
    injection e5 with e5 _ _
    omega
  have HP := fun W hW => popW w0 W base mb nw C M hW hh h64
  have HBD : ∀ W, W = wb.drew → MW w0 W base mb nw C M := fun W e => by rw [e]; exact hb.later ⟨rfl, rfl, rfl, Nat.le_refl _, fun _ _ => rfl⟩
  go_wp2_with fail
  rw [HB.out]
  go_region_held3 (fun w' => w'.cell? ⟨mb, 55, none⟩ = some (.slice (some ⟨gw, 0, none⟩) nw cw) ∧ w'.cell? ⟨w.heap.size, 1, none⟩ = some (.int .i64 (a' : Int))) (first | exact KP | exact KS | go_keep) ((go_at_call 79; (with_reducible refine (HP _ (HBD _ rfl)).mono ?_); rintro e w1 ⟨rfl, o1, m1⟩; have KP : w1.cell? ⟨mb, 55, none⟩ = some (.slice (some ⟨gw, 0, none⟩) nw cw) ∧ w1.cell? ⟨w.heap.size, 1, none⟩ = some (.int .i64 (a' : Int)) := ⟨(m1.box.cell 55 (by omega)).trans (congrArg some hwv), only_keeps o1 (by omega) b1⟩; have hc1 := only_keeps o1 hgl.2 hcell.1; have fz : w1.frozen? ⟨gw, a', none⟩ = false := (m1.word' hA hwv).2; have KS : (w1.setCell ⟨gw, a', none⟩ (.int .i64 (topM M))).cell? ⟨mb, 55, none⟩ = some (.slice (some ⟨gw, 0, none⟩) nw cw) ∧ (w1.setCell ⟨gw, a', none⟩ (.int .i64 (topM M))).cell? ⟨w.heap.size, 1, none⟩ = some (.int .i64 (a' : Int)) := ⟨(World.cell?_of_block (Below.heap_setCell w1 ⟨gw, a', none⟩ _ mb (fun e => hgl.2 e.symm))).trans KP.1, (World.cell?_of_block (Below.heap_setCell w1 ⟨gw, a', none⟩ _ w.heap.size (by show w.heap.size ≠ gw; omega))).trans KP.2⟩))
  go_wp2
  go_ret
  exact ⟨rfl, fun _ => m1.setWord hA hwv (topM M), fun h => absurd rfl h⟩
end Go.Proofs.YtopggemomcoalaaGreat
namespace Go.Proofs.YtopggemomcoalaaGreat
open Go.ChangeShapes Go.WideShapes Go.ChangeAt Go.RowKit
set_option linter.unusedVariables false

def singleV (o a : Int) : Int := if o = 23 then wrap64 (-a) else if o = 25 then bits BinOp.xor IntKind.i64 (-1) a else if o = 24 then (if a = 0 then 1 else 0) else (if a = 0 then 0 else 1)
set_option maxRecDepth 100000 in
theorem single_any (o a : Int) (h : o = 23 ∨ o = 24 ∨ o = 25 ∨ o = 34) (w : World) : Calls Tryz.prog 99 #[.int .i64 o, .int .i64 a] w fun e w' => e = .returned (.int .i64 (singleV o a)) ∧ w' = w := by
  by_cases ha : a = 0
  · subst ha
    rcases h with rfl | rfl | rfl | rfl
    all_goals
      go_enter Tryz.func99, Tryz.ntmps99
      go_wp2_with ((go_at_call 70; (with_reducible refine (truth_any _ _).mono ?_); rintro e w1 ⟨rfl, rfl⟩))
      go_ret
      exact ⟨by first | rfl | (simp [singleV]; done) | (simp [singleV]; decide) | (simp [singleV, wrap64]; done), rfl⟩
  · have ha' : (a == 0) = false := by simpa using ha
    rcases h with rfl | rfl | rfl | rfl
    · have e : singleV 23 a = wrap64 (-a) := rfl
      rw [e]
      go_enter Tryz.func99, Tryz.ntmps99
      go_wp2
      go_ret
      exact ⟨rfl, rfl⟩
    · have e : singleV 24 a = 0 := by unfold singleV; simp [ha]
      rw [e]
      go_enter Tryz.func99, Tryz.ntmps99
      go_wp2_with ((go_at_call 70; (with_reducible refine (truth_any _ _).mono ?_); rintro e w1 ⟨rfl, rfl⟩))
      go_ret
      exact ⟨rfl, rfl⟩
    · have e : singleV 25 a = bits BinOp.xor IntKind.i64 (-1) a := rfl
      rw [e]
      go_enter Tryz.func99, Tryz.ntmps99
      go_wp2
      go_ret
      exact ⟨rfl, rfl⟩
    · have e : singleV 34 a = 1 := by unfold singleV; simp [ha]
      rw [e]
      go_enter Tryz.func99, Tryz.ntmps99
      go_wp2_with ((go_at_call 70; (with_reducible refine (truth_any _ _).mono ?_); rintro e w1 ⟨rfl, rfl⟩))
      go_ret
      exact ⟨rfl, rfl⟩
set_option maxRecDepth 100000 in
set_option maxHeartbeats 4000000 in
theorem do_7 (w0 w : World) (base mb nw : Nat) (C : Nat → Value) (M : Mc) (cl : Cl) (code : Value) (hC : CC C cl code) (a' : Nat) (b : Int) (h : MW w0 w base mb nw C M) (hh : M.hi < 64) (hA : a' < 32) :
    Calls Tryz.prog 80 #[.pointer (some ⟨mb, 0, none⟩), .agg #[.int .i64 7, .int .i64 (a' : Int), .int .i64 b]] w fun e w' => e = .returned (.int .i64 0) ∧ RS w0 w' base mb nw C M 0 (pushM M (M.lo a')) := by
  obtain ⟨wb, hwb⟩ : ∃ wb, w.alloc (.cells #[.int .i64 7, .int .i64 (a' : Int), .int .i64 b] 36) = wb := ⟨_, rfl⟩
  obtain ⟨hbb, hbx, hsz⟩ := inbox w 7 (a' : Int) b wb hwb
  have HB : Hid (w.alloc (.cells #[.int .i64 7, .int .i64 (a' : Int), .int .i64 b] 36) = wb) := hwb
  have hlt := h.box.lt.1
  have hb := h.later hbb
  clear hwb
  go_enter Tryz.func80, Tryz.ntmps80
  have cl0 : wb.cell? ⟨mb, 58 + a', none⟩ = some (.int .i64 (M.lo a')) := (hb.box.cell (58 + a') (by omega)).trans (by rw [mF_lo _ _ hA])
  obtain ⟨b0, b1, b2⟩ := cells3 hbx
  have i0 : (0 : Int) ≤ (a' : Int) := by omega
  have i1 : (a' : Int) < 32 := by omega
  have HP := fun W hW => pushW w0 W base mb nw C M (M.lo a') hW hh
  have HBD : ∀ W, W = wb.drew → MW w0 W base mb nw C M := fun W e => by rw [e]; exact hb.later ⟨rfl, rfl, rfl, Nat.le_refl _, fun _ _ => rfl⟩
  go_wp2_with fail
  rw [HB.out]
  go_region_held3 (fun w' => w'.cell? ⟨mb, 58 + a', none⟩ = some (.int .i64 (M.lo a')) ∧ w'.cell? ⟨w.heap.size, 1, none⟩ = some (.int .i64 (a' : Int))) (first | exact KP | go_keep) ((go_at_call 98; (with_reducible refine (HP _ (HBD _ rfl)).mono ?_); rintro e w1 ⟨rfl, o1, m1⟩; have KP : w1.cell? ⟨mb, 58 + a', none⟩ = some (.int .i64 (M.lo a')) ∧ w1.cell? ⟨w.heap.size, 1, none⟩ = some (.int .i64 (a' : Int)) := ⟨(m1.box.cell (58 + a') (by omega)).trans (by rw [mF_lo _ _ hA]; rfl), only_keeps o1 (by omega) b1⟩))
  go_wp2
  go_ret
  exact ⟨rfl, fun _ => m1, fun h => absurd rfl h⟩
set_option maxRecDepth 100000 in
set_option maxHeartbeats 4000000 in
theorem do_8 (w0 w : World) (base mb nw : Nat) (C : Nat → Value) (M : Mc) (cl : Cl) (code : Value) (hC : CC C cl code) (a' : Nat) (b : Int) (h : MW w0 w base mb nw C M) (hh : 0 < M.hi) (h64 : M.hi ≤ 64) (hA : a' < 32) :
    Calls Tryz.prog 80 #[.pointer (some ⟨mb, 0, none⟩), .agg #[.int .i64 8, .int .i64 (a' : Int), .int .i64 b]] w fun e w' => e = .returned (.int .i64 0) ∧ RS w0 w' base mb nw C M 0 ({ popM M with lo := updI M.lo a' (topM M) }) := by
  obtain ⟨wb, hwb⟩ : ∃ wb, w.alloc (.cells #[.int .i64 8, .int .i64 (a' : Int), .int .i64 b] 36) = wb := ⟨_, rfl⟩
  obtain ⟨hbb, hbx, hsz⟩ := inbox w 8 (a' : Int) b wb hwb
  have HB : Hid (w.alloc (.cells #[.int .i64 8, .int .i64 (a' : Int), .int .i64 b] 36) = wb) := hwb
  have hlt := h.box.lt.1
  have hb := h.later hbb
  clear hwb
  go_enter Tryz.func80, Tryz.ntmps80
  obtain ⟨b0, b1, b2⟩ := cells3 hbx
  have i0 : (0 : Int) ≤ (a' : Int) := by omega
  have i1 : (a' : Int) < 32 := by omega
  have HP := fun W hW => popW w0 W base mb nw C M hW hh h64
  have HBD : ∀ W, W = wb.drew → MW w0 W base mb nw C M := fun W e => by rw [e]; exact hb.later ⟨rfl, rfl, rfl, Nat.le_refl _, fun _ _ => rfl⟩
  go_wp2_with fail
  rw [HB.out]
  go_region_held3 (fun w' => w'.cell? ⟨w.heap.size, 1, none⟩ = some (.int .i64 (a' : Int))) (first | exact KP | exact KS | go_keep) ((go_at_call 79; (with_reducible refine (HP _ (HBD _ rfl)).mono ?_); rintro e w1 ⟨rfl, o1, m1⟩; have KP : w1.cell? ⟨w.heap.size, 1, none⟩ = some (.int .i64 (a' : Int)) := only_keeps o1 (by omega) b1; have cl1 : w1.cell? ⟨mb, 58 + a', none⟩ = some (.int .i64 (M.lo a')) := (m1.box.cell (58 + a') (by omega)).trans (by rw [mF_lo _ _ hA]; rfl); have fz := m1.box.frozen (58 + a'); have KS : (w1.setCell ⟨mb, 58 + a', none⟩ (.int .i64 (topM M))).cell? ⟨w.heap.size, 1, none⟩ = some (.int .i64 (a' : Int)) := only_keeps (Only.set mb w1 (58 + a') (.int .i64 (topM M))) (by omega) KP))
  go_wp2
  go_ret
  exact ⟨rfl, fun _ => m1.only (Only.set mb w1 _ _) (m1.box.setLo hA (topM M)) rfl rfl rfl rfl rfl, fun h => absurd rfl h⟩
set_option maxRecDepth 100000 in
set_option maxHeartbeats 4000000 in
theorem do_23 (w0 w : World) (base mb nw : Nat) (C : Nat → Value) (M : Mc) (cl : Cl) (code : Value) (hC : CC C cl code) (a b : Int) (h : MW w0 w base mb nw C M) (hh : 0 < M.hi) (h64 : M.hi ≤ 64) :
    Calls Tryz.prog 80 #[.pointer (some ⟨mb, 0, none⟩), .agg #[.int .i64 23, .int .i64 a, .int .i64 b]] w fun e w' => e = .returned (.int .i64 0) ∧ RS w0 w' base mb nw C M 0 (pushM (popM M) (singleV 23 (topM M))) := by
  obtain ⟨wb, hwb⟩ : ∃ wb, w.alloc (.cells #[.int .i64 23, .int .i64 a, .int .i64 b] 36) = wb := ⟨_, rfl⟩
  obtain ⟨hbb, hbx, hsz⟩ := inbox w 23 a b wb hwb
  have HB : Hid (w.alloc (.cells #[.int .i64 23, .int .i64 a, .int .i64 b] 36) = wb) := hwb
  have hlt := h.box.lt.1
  have hb := h.later hbb
  clear hwb
  go_enter Tryz.func80, Tryz.ntmps80
  obtain ⟨b0, b1, b2⟩ := cells3 hbx
  have HP := fun W hW => popW w0 W base mb nw C M hW hh h64
  have HV := single_any 23 (topM M) (by decide)
  have hph : (popM M).hi < 64 := by show M.hi - 1 < 64; omega
  have HBD : ∀ W, W = wb.drew → MW w0 W base mb nw C M := fun W e => by rw [e]; exact hb.later ⟨rfl, rfl, rfl, Nat.le_refl _, fun _ _ => rfl⟩
  go_wp2_with fail
  rw [HB.out]
  go_region_held3 (fun w' => w'.cell? ⟨w.heap.size, 0, none⟩ = some (.int .i64 23)) (first | exact KP | exact KP2 | go_keep) (first | (go_at_call 79; (with_reducible refine (HP _ (HBD _ rfl)).mono ?_); rintro e w1 ⟨rfl, o1, m1⟩; have KP : w1.cell? ⟨w.heap.size, 0, none⟩ = some (.int .i64 23) := only_keeps o1 (by omega) b0) | (go_at_call 99; (with_reducible refine (HV _).mono ?_); rintro e w2 ⟨rfl, rfl⟩) | (go_at_call 98; (with_reducible refine (pushW w0 _ base mb nw C (popM M) (singleV 23 (topM M)) m1 hph).mono ?_); rintro e w3 ⟨rfl, o3, m3⟩; have KP2 : w3.cell? ⟨w.heap.size, 0, none⟩ = some (.int .i64 23) := only_keeps o3 (by omega) KP))
  go_wp2
  go_ret
  exact ⟨rfl, fun _ => m3, fun h => absurd rfl h⟩
set_option maxRecDepth 100000 in
set_option maxHeartbeats 4000000 in
theorem do_24 (w0 w : World) (base mb nw : Nat) (C : Nat → Value) (M : Mc) (cl : Cl) (code : Value) (hC : CC C cl code) (a b : Int) (h : MW w0 w base mb nw C M) (hh : 0 < M.hi) (h64 : M.hi ≤ 64) :
    Calls Tryz.prog 80 #[.pointer (some ⟨mb, 0, none⟩), .agg #[.int .i64 24, .int .i64 a, .int .i64 b]] w fun e w' => e = .returned (.int .i64 0) ∧ RS w0 w' base mb nw C M 0 (pushM (popM M) (singleV 24 (topM M))) := by
  obtain ⟨wb, hwb⟩ : ∃ wb, w.alloc (.cells #[.int .i64 24, .int .i64 a, .int .i64 b] 36) = wb := ⟨_, rfl⟩
  obtain ⟨hbb, hbx, hsz⟩ := inbox w 24 a b wb hwb
  have HB : Hid (w.alloc (.cells #[.int .i64 24, .int .i64 a, .int .i64 b] 36) = wb) := hwb
  have hlt := h.box.lt.1
  have hb := h.later hbb
  clear hwb
  go_enter Tryz.func80, Tryz.ntmps80
  obtain ⟨b0, b1, b2⟩ := cells3 hbx
  have HP := fun W hW => popW w0 W base mb nw C M hW hh h64
  have HV := single_any 24 (topM M) (by decide)
  have hph : (popM M).hi < 64 := by show M.hi - 1 < 64; omega
  have HBD : ∀ W, W = wb.drew → MW w0 W base mb nw C M := fun W e => by rw [e]; exact hb.later ⟨rfl, rfl, rfl, Nat.le_refl _, fun _ _ => rfl⟩
  go_wp2_with fail
  rw [HB.out]
  go_region_held3 (fun w' => w'.cell? ⟨w.heap.size, 0, none⟩ = some (.int .i64 24)) (first | exact KP | exact KP2 | go_keep) (first | (go_at_call 79; (with_reducible refine (HP _ (HBD _ rfl)).mono ?_); rintro e w1 ⟨rfl, o1, m1⟩; have KP : w1.cell? ⟨w.heap.size, 0, none⟩ = some (.int .i64 24) := only_keeps o1 (by omega) b0) | (go_at_call 99; (with_reducible refine (HV _).mono ?_); rintro e w2 ⟨rfl, rfl⟩) | (go_at_call 98; (with_reducible refine (pushW w0 _ base mb nw C (popM M) (singleV 24 (topM M)) m1 hph).mono ?_); rintro e w3 ⟨rfl, o3, m3⟩; have KP2 : w3.cell? ⟨w.heap.size, 0, none⟩ = some (.int .i64 24) := only_keeps o3 (by omega) KP))
  go_wp2
  go_ret
  exact ⟨rfl, fun _ => m3, fun h => absurd rfl h⟩
set_option maxRecDepth 100000 in
set_option maxHeartbeats 4000000 in
theorem do_25 (w0 w : World) (base mb nw : Nat) (C : Nat → Value) (M : Mc) (cl : Cl) (code : Value) (hC : CC C cl code) (a b : Int) (h : MW w0 w base mb nw C M) (hh : 0 < M.hi) (h64 : M.hi ≤ 64) :
    Calls Tryz.prog 80 #[.pointer (some ⟨mb, 0, none⟩), .agg #[.int .i64 25, .int .i64 a, .int .i64 b]] w fun e w' => e = .returned (.int .i64 0) ∧ RS w0 w' base mb nw C M 0 (pushM (popM M) (singleV 25 (topM M))) := by
  obtain ⟨wb, hwb⟩ : ∃ wb, w.alloc (.cells #[.int .i64 25, .int .i64 a, .int .i64 b] 36) = wb := ⟨_, rfl⟩
  obtain ⟨hbb, hbx, hsz⟩ := inbox w 25 a b wb hwb
  have HB : Hid (w.alloc (.cells #[.int .i64 25, .int .i64 a, .int .i64 b] 36) = wb) := hwb
  have hlt := h.box.lt.1
  have hb := h.later hbb
  clear hwb
  go_enter Tryz.func80, Tryz.ntmps80
  obtain ⟨b0, b1, b2⟩ := cells3 hbx
  have HP := fun W hW => popW w0 W base mb nw C M hW hh h64
  have HV := single_any 25 (topM M) (by decide)
  have hph : (popM M).hi < 64 := by show M.hi - 1 < 64; omega
  have HBD : ∀ W, W = wb.drew → MW w0 W base mb nw C M := fun W e => by rw [e]; exact hb.later ⟨rfl, rfl, rfl, Nat.le_refl _, fun _ _ => rfl⟩
  go_wp2_with fail
  rw [HB.out]
  go_region_held3 (fun w' => w'.cell? ⟨w.heap.size, 0, none⟩ = some (.int .i64 25)) (first | exact KP | exact KP2 | go_keep) (first | (go_at_call 79; (with_reducible refine (HP _ (HBD _ rfl)).mono ?_); rintro e w1 ⟨rfl, o1, m1⟩; have KP : w1.cell? ⟨w.heap.size, 0, none⟩ = some (.int .i64 25) := only_keeps o1 (by omega) b0) | (go_at_call 99; (with_reducible refine (HV _).mono ?_); rintro e w2 ⟨rfl, rfl⟩) | (go_at_call 98; (with_reducible refine (pushW w0 _ base mb nw C (popM M) (singleV 25 (topM M)) m1 hph).mono ?_); rintro e w3 ⟨rfl, o3, m3⟩; have KP2 : w3.cell? ⟨w.heap.size, 0, none⟩ = some (.int .i64 25) := only_keeps o3 (by omega) KP))
  go_wp2
  go_ret
  exact ⟨rfl, fun _ => m3, fun h => absurd rfl h⟩
set_option maxRecDepth 100000 in
set_option maxHeartbeats 4000000 in
theorem do_34 (w0 w : World) (base mb nw : Nat) (C : Nat → Value) (M : Mc) (cl : Cl) (code : Value) (hC : CC C cl code) (a b : Int) (h : MW w0 w base mb nw C M) (hh : 0 < M.hi) (h64 : M.hi ≤ 64) :
    Calls Tryz.prog 80 #[.pointer (some ⟨mb, 0, none⟩), .agg #[.int .i64 34, .int .i64 a, .int .i64 b]] w fun e w' => e = .returned (.int .i64 0) ∧ RS w0 w' base mb nw C M 0 (pushM (popM M) (singleV 34 (topM M))) := by
  obtain ⟨wb, hwb⟩ : ∃ wb, w.alloc (.cells #[.int .i64 34, .int .i64 a, .int .i64 b] 36) = wb := ⟨_, rfl⟩
  obtain ⟨hbb, hbx, hsz⟩ := inbox w 34 a b wb hwb
  have HB : Hid (w.alloc (.cells #[.int .i64 34, .int .i64 a, .int .i64 b] 36) = wb) := hwb
  have hlt := h.box.lt.1
  have hb := h.later hbb
  clear hwb
  go_enter Tryz.func80, Tryz.ntmps80
  obtain ⟨b0, b1, b2⟩ := cells3 hbx
  have HP := fun W hW => popW w0 W base mb nw C M hW hh h64
  have HV := single_any 34 (topM M) (by decide)
  have hph : (popM M).hi < 64 := by show M.hi - 1 < 64; omega
  have HBD : ∀ W, W = wb.drew → MW w0 W base mb nw C M := fun W e => by rw [e]; exact hb.later ⟨rfl, rfl, rfl, Nat.le_refl _, fun _ _ => rfl⟩
  go_wp2_with fail
  rw [HB.out]
  go_region_held3 (fun w' => w'.cell? ⟨w.heap.size, 0, none⟩ = some (.int .i64 34)) (first | exact KP | exact KP2 | go_keep) (first | (go_at_call 79; (with_reducible refine (HP _ (HBD _ rfl)).mono ?_); rintro e w1 ⟨rfl, o1, m1⟩; have KP : w1.cell? ⟨w.heap.size, 0, none⟩ = some (.int .i64 34) := only_keeps o1 (by omega) b0) | (go_at_call 99; (with_reducible refine (HV _).mono ?_); rintro e w2 ⟨rfl, rfl⟩) | (go_at_call 98; (with_reducible refine (pushW w0 _ base mb nw C (popM M) (singleV 34 (topM M)) m1 hph).mono ?_); rintro e w3 ⟨rfl, o3, m3⟩; have KP2 : w3.cell? ⟨w.heap.size, 0, none⟩ = some (.int .i64 34) := only_keeps o3 (by omega) KP))
  go_wp2
  go_ret
  exact ⟨rfl, fun _ => m3, fun h => absurd rfl h⟩
end Go.Proofs.YtopggemomcoalaaGreat
