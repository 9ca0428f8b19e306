import Derived.Test.YtmekcccmnkgodaaGreatDoorFGP3
import Derived.BigQuiet
import Derived.WalkLawsBesides
import Derived.BigRegion
import Derived.Deep.RegionHeld3
namespace Go.Proofs.YtmekcccmnkgodaaGreatDoor
open Go.ChangeShapes Go.WideShapes Go.ChangeAt Go.RowKit
set_option linter.unusedVariables false
set_option linter.unusedSimpArgs false
theorem cell_box4 {W : World} {b : Nat} {c0 c1 c2 c3 : Value} {t : TypeId} (h : W.heap[b]? = some (.cells #[c0, c1, c2, c3] t (0, 0))) : W.cell? ⟨b, 0, none⟩ = some c0 ∧ W.cell? ⟨b, 1, none⟩ = some c1 ∧ W.cell? ⟨b, 2, none⟩ = some c2 ∧ W.cell? ⟨b, 3, none⟩ = some c3 := by
  unfold World.cell?
  simp [h]
theorem cell_box5 {W : World} {b : Nat} {c0 c1 c2 c3 c4 : Value} {t : TypeId} (h : W.heap[b]? = some (.cells #[c0, c1, c2, c3, c4] t (0, 0))) : W.cell? ⟨b, 0, none⟩ = some c0 ∧ W.cell? ⟨b, 1, none⟩ = some c1 ∧ W.cell? ⟨b, 2, none⟩ = some c2 ∧ W.cell? ⟨b, 3, none⟩ = some c3 ∧ W.cell? ⟨b, 4, none⟩ = some c4 := by
  unfold World.cell?
  simp [h]
theorem frz_box {W : World} {b o : Nat} {cs : Array Value} {t : TypeId} (h : W.heap[b]? = some (.cells cs t (0, 0))) : W.frozen? ⟨b, o, none⟩ = false := by
  unfold World.frozen?
  simp [h]
theorem PW.tok {W : World} {base pb : Nat} {lp : Option Addr} {lc n : Nat} {X : Nat → Tk} {s : St} {ks : List Value} (h : PW W base pb lp lc n X s ks) {i : Nat} (hi : i < n) : ∃ b o, lp = some ⟨b, o, none⟩ ∧ b < base ∧ W.cell? ⟨b, o + i * 5, none⟩ = some (.int .i64 (X i).kind) ∧ W.cell? ⟨b, o + i * 5 + 1, none⟩ = some (.string ⟨(X i).text.toArray⟩) ∧ W.cell? ⟨b, o + i * 5 + 2, none⟩ = some (.int .u64 ((X i).num : Int)) ∧ W.cell? ⟨b, o + i * 5 + 3, none⟩ = some (.int .i64 (X i).line) ∧ W.cell? ⟨b, o + i * 5 + 4, none⟩ = some (.int .i64 (X i).col) := by
  rcases h.tx with h9 | ⟨b, o, e, hl, hc⟩
  · omega
  · exact ⟨b, o, e, hl, hc i 0 hi (by omega), hc i 1 hi (by omega), hc i 2 hi (by omega), hc i 3 hi (by omega), hc i 4 hi (by omega)⟩
set_option maxRecDepth 100000 in
set_option maxHeartbeats 2000000 in
theorem kind_any {w : World} {base pb : Nat} {lp : Option Addr} {lc n : Nat} {X : Nat → Tk} {s : St} {ks : List Value} (h : PW w base pb lp lc n X s ks) (hn : n ≤ 16384) : Calls Tryz.prog 51 #[.pointer (some ⟨pb, 0, none⟩)] w fun e w' => e = .returned (.int .i64 (kd X n s)) ∧ Below w.heap.size w w' := by
  obtain ⟨i, d, md⟩ := s
  obtain ⟨mv, hb, _⟩ := h.blk
  obtain ⟨c0, c1, c2, c3⟩ := cell_box4 hb
  have hnx : i ≤ n := h.nx
  unfold kd
  by_cases hx : i = n
  · subst hx
    rw [if_pos rfl]
    clear h hb
    go_enter Tryz.func51, Tryz.ntmps51
    go_wp2
    go_region
    go_wp2
    go_ret
    exact ⟨rfl, (Below.refl _ w).drew⟩
  · obtain ⟨b, o, rfl, hbl, t0, -, -, -, -⟩ := h.tok (i := i) (by omega)
    rw [if_neg hx]
    show Calls Tryz.prog 51 #[.pointer (some ⟨pb, 0, none⟩)] w fun e w' => e = .returned (.int .i64 (X i).kind) ∧ Below w.heap.size w w'
    generalize X i = t at *
    have i0 : (0 : Int) ≤ (i : Int) := by omega
    have i1 : (i : Int) < (n : Int) := by omega
    have hx2 : ¬ ((i : Int) = (n : Int)) := by omega
    clear h hb
    go_enter Tryz.func51, Tryz.ntmps51
    go_wp2
    go_region
    go_wp2
    go_region
    go_wp2
    go_ret
    exact ⟨rfl, (Below.refl _ w).drew.drew⟩
set_option maxRecDepth 100000 in
theorem faultAt_any (t : Tk) (code : Int) (w : World) : Calls Tryz.prog 19 #[.agg (tkA t), .int .i64 code] w fun e w' => ∃ b, w.heap.size ≤ b ∧ e = .returned (.iface 56 (.pointer (some ⟨b, 0, none⟩))) ∧ w'.heap[b]? = some (.cells #[.int .i64 t.line, .int .i64 t.col, .iface 51 (.int .i64 code)] 59 (0, 0)) ∧ Below w.heap.size w w' := by
  unfold tkA
  go_enter Tryz.func19, Tryz.ntmps19
  go_wp2
  go_ret
  refine ⟨w.heap.size + 1, by omega, rfl, ?_, ((Below.refl _ w).alloc (Nat.le_refl _) _).alloc (by simp) _⟩
  have h9 := World.alloc_heap_new (w.alloc (.cells #[.int .i64 t.kind, .string ⟨t.text.toArray⟩, .int .u64 (t.num : Int), .int .i64 t.line, .int .i64 t.col] 40)) (.cells #[.int .i64 t.line, .int .i64 t.col, .iface 51 (.int .i64 code)] 59 (0, 0))
  rw [World.size_alloc] at h9
  exact h9
/-- what refusal answers -/
def Rf (w : World) (er : Pe) (e : Ending) (w' : World) : Prop := ∃ b, w.heap.size ≤ b ∧ e = .returned (.iface 56 (.pointer (some ⟨b, 0, none⟩))) ∧ w'.heap[b]? = some (.cells #[.int .i64 er.line, .int .i64 er.col, .iface 51 (.int .i64 er.code)] 59 (0, 0)) ∧ Below w.heap.size w w'
set_option maxRecDepth 100000 in
set_option maxHeartbeats 4000000 in
theorem refusal_any {w : World} {base pb : Nat} {lp : Option Addr} {lc n : Nat} {X : Nat → Tk} {s : St} {ks : List Value} (h : PW w base pb lp lc n X s ks) (hn : n ≤ 16384) (h0 : 0 < n) (hr : ∀ i, i < n → TkR (X i)) : Calls Tryz.prog 58 #[.pointer (some ⟨pb, 0, none⟩)] w (Rf w (refu X n s)) := by
  obtain ⟨i, d, md⟩ := s
  obtain ⟨mv, hb, _⟩ := h.blk
  obtain ⟨c0, c1, c2, c3⟩ := cell_box4 hb
  have hnx : i ≤ n := h.nx
  unfold refu
  by_cases hx : i < n
  · obtain ⟨b, o, rfl, hbl, t0, t1, t2, t3, t4⟩ := h.tok (i := i) (by omega)
    rw [if_pos hx]
    show Calls Tryz.prog 58 #[.pointer (some ⟨pb, 0, none⟩)] w (Rf w ⟨i, (X i).line, (X i).col, 40⟩)
    generalize X i = t at *
    have HS : Hid (∀ W, Below w.heap.size w W → ((W.cell? ⟨pb, 0, none⟩ = some (.slice (some ⟨b, o, none⟩) n lc) ∧ W.cell? ⟨pb, 1, none⟩ = some (.int .i64 (i : Int))) ∧ (W.cell? ⟨b, o + i * 5, none⟩ = some (.int .i64 t.kind) ∧ W.cell? ⟨b, o + i * 5 + 1, none⟩ = some (.string ⟨t.text.toArray⟩)) ∧ (W.cell? ⟨b, o + i * 5 + 2, none⟩ = some (.int .u64 (t.num : Int)) ∧ W.cell? ⟨b, o + i * 5 + 3, none⟩ = some (.int .i64 t.line)) ∧ W.cell? ⟨b, o + i * 5 + 4, none⟩ = some (.int .i64 t.col))) := fun W hW => by
      have k : ∀ c, c < w.heap.size → W.heap[c]? = w.heap[c]? := hW.block
      have k1 : W.heap[pb]? = w.heap[pb]? := k pb (Array.getElem?_eq_some_iff.1 hb).1
      have k2 : W.heap[b]? = w.heap[b]? := k b (Nat.lt_of_lt_of_le hbl h.sz)
      exact ⟨⟨(World.cell?_of_block (a := ⟨pb, 0, none⟩) k1).trans c0, (World.cell?_of_block (a := ⟨pb, 1, none⟩) k1).trans c1⟩, ⟨(World.cell?_of_block (a := ⟨b, o + i * 5, none⟩) k2).trans t0, (World.cell?_of_block (a := ⟨b, o + i * 5 + 1, none⟩) k2).trans t1⟩, ⟨(World.cell?_of_block (a := ⟨b, o + i * 5 + 2, none⟩) k2).trans t2, (World.cell?_of_block (a := ⟨b, o + i * 5 + 3, none⟩) k2).trans t3⟩, (World.cell?_of_block (a := ⟨b, o + i * 5 + 4, none⟩) k2).trans t4⟩
    have i0 : (0 : Int) ≤ (i : Int) := by omega
    have i1 : (i : Int) < (n : Int) := by omega
    have d1 : decide ((i : Int) < (n : Int)) = true := decide_eq_true i1
    have d2 : decide (i < n) = true := decide_eq_true hx
    have HF2 : Hid (Calls Tryz.prog 19 #[.agg (tkA t), .int .i64 40] w.drew.drew fun e w' => Rf w ⟨i, t.line, t.col, 40⟩ e w' ∧ ((fun W => (W.cell? ⟨pb, 0, none⟩ = some (.slice (some ⟨b, o, none⟩) n lc) ∧ W.cell? ⟨pb, 1, none⟩ = some (.int .i64 (i : Int))) ∧ (W.cell? ⟨b, o + i * 5, none⟩ = some (.int .i64 t.kind) ∧ W.cell? ⟨b, o + i * 5 + 1, none⟩ = some (.string ⟨t.text.toArray⟩)) ∧ (W.cell? ⟨b, o + i * 5 + 2, none⟩ = some (.int .u64 (t.num : Int)) ∧ W.cell? ⟨b, o + i * 5 + 3, none⟩ = some (.int .i64 t.line)) ∧ W.cell? ⟨b, o + i * 5 + 4, none⟩ = some (.int .i64 t.col)) w')) := (faultAt_any t 40 w.drew.drew).mono fun e w' ⟨b, h1, h2, h3, h4⟩ => ⟨⟨b, h1, h2, h3, (Below.refl _ w).drew.drew.trans h4⟩, HS.out w' ((Below.refl _ w).drew.drew.trans h4)⟩
    unfold tkA at HF2
    have hS := HS.out w.drew.drew (Below.refl _ w).drew.drew
    clear h hb HS
    go_enter Tryz.func58, Tryz.ntmps58
    go_wp2
    go_region
    go_wp2
    go_region_held3 (fun W => (W.cell? ⟨pb, 0, none⟩ = some (.slice (some ⟨b, o, none⟩) n lc) ∧ W.cell? ⟨pb, 1, none⟩ = some (.int .i64 (i : Int))) ∧ (W.cell? ⟨b, o + i * 5, none⟩ = some (.int .i64 t.kind) ∧ W.cell? ⟨b, o + i * 5 + 1, none⟩ = some (.string ⟨t.text.toArray⟩)) ∧ (W.cell? ⟨b, o + i * 5 + 2, none⟩ = some (.int .u64 (t.num : Int)) ∧ W.cell? ⟨b, o + i * 5 + 3, none⟩ = some (.int .i64 t.line)) ∧ W.cell? ⟨b, o + i * 5 + 4, none⟩ = some (.int .i64 t.col)) (first | exact hS | exact s9 | go_keep) (first | (go_at_call 19; (with_reducible refine (HF2.out).mono ?_); rintro e9 w9 ⟨⟨b9, h91, rfl, h93, h94⟩, s9⟩))
    all_goals
      go_wp2
      go_ret
      exact ⟨b9, h91, rfl, h93, h94⟩
  · obtain ⟨j, rfl⟩ : ∃ j, n = j + 1 := ⟨n - 1, by omega⟩
    obtain rfl : i = j + 1 := by omega
    rw [if_neg hx]
    simp only [Nat.add_sub_cancel]
    obtain ⟨b, o, rfl, hbl, t0, t1, t2, t3, t4⟩ := h.tok (i := j) (by omega)
    clear hr
    generalize X j = t at *
    have htz : (⟨t.text.toArray⟩ : ByteArray).size = t.text.length := by simp [ByteArray.size]
    obtain ⟨tl, htl⟩ : ∃ tl, t.text.length = tl := ⟨_, rfl⟩
    rw [htl] at htz ⊢
    clear htl
    have i0 : (0 : Int) ≤ (j : Int) := by omega
    have i1 : (j : Int) < ((j + 1 : Nat) : Int) := by omega
    have i2 : (j : Int) < (j : Int) + 1 := by omega
    have d1 : decide (((j + 1 : Nat) : Int) < ((j + 1 : Nat) : Int)) = false := decide_eq_false (by omega)
    have ej : IntKind.i64.wrap (((j + 1 : Nat) : Int) - 1) = (j : Int) := by rw [IntKind.wrap_i64]; omega
    have ej2 : IntKind.i64.wrap ((j : Int) + 1 - 1) = (j : Int) := by rw [IntKind.wrap_i64]; omega
    have HF2 : Hid (∀ W, Below w.heap.size w W → Calls Tryz.prog 19 #[.agg #[.int .i64 t.kind, .string ⟨t.text.toArray⟩, .int .u64 (t.num : Int), .int .i64 t.line, .int .i64 (wrap64 (t.col + (tl : Int)))], .int .i64 41] W (Rf w ⟨j + 1, t.line, wrap64 (t.col + (tl : Int)), 41⟩)) := fun W hW => (faultAt_any ⟨t.kind, t.text, t.num, t.line, wrap64 (t.col + (tl : Int))⟩ 41 W).mono fun e w' ⟨b, h1, h2, h3, h4⟩ => ⟨b, Nat.le_trans hW.size h1, h2, h3, hW.trans (h4.mono hW.size)⟩
    have n1 := World.new_ne w ⟨pb, 0, none⟩ c0
    have n2 := World.new_ne w ⟨b, o + j * 5, none⟩ t0
    have hS : w.drew.drew.cell? ⟨pb, 0, none⟩ = some (.slice (some ⟨b, o, none⟩) (j + 1) lc) ∧ (w.drew.drew.cell? ⟨b, o + j * 5, none⟩ = some (.int .i64 t.kind) ∧ w.drew.drew.cell? ⟨b, o + j * 5 + 1, none⟩ = some (.string ⟨t.text.toArray⟩)) ∧ (w.drew.drew.cell? ⟨b, o + j * 5 + 2, none⟩ = some (.int .u64 (t.num : Int)) ∧ w.drew.drew.cell? ⟨b, o + j * 5 + 3, none⟩ = some (.int .i64 t.line)) ∧ w.drew.drew.cell? ⟨b, o + j * 5 + 4, none⟩ = some (.int .i64 t.col) := ⟨c0, ⟨t0, t1⟩, ⟨t2, t3⟩, t4⟩
    have ej3 : IntKind.i64.wrap (j : Int) = (j : Int) := by rw [IntKind.wrap_i64]; omega
    clear h hb hx
    go_enter Tryz.func58, Tryz.ntmps58
    go_wp2
    go_region
    go_wp2
    go_region_held3 (fun W => W.cell? ⟨pb, 0, none⟩ = some (.slice (some ⟨b, o, none⟩) (j + 1) lc) ∧ (W.cell? ⟨b, o + j * 5, none⟩ = some (.int .i64 t.kind) ∧ W.cell? ⟨b, o + j * 5 + 1, none⟩ = some (.string ⟨t.text.toArray⟩)) ∧ (W.cell? ⟨b, o + j * 5 + 2, none⟩ = some (.int .u64 (t.num : Int)) ∧ W.cell? ⟨b, o + j * 5 + 3, none⟩ = some (.int .i64 t.line)) ∧ W.cell? ⟨b, o + j * 5 + 4, none⟩ = some (.int .i64 t.col)) (first | exact hS | go_keep) (fail)
    go_wp2_with (go_at_call 19; (with_reducible refine (HF2.out _ ?_).mono ?_); (first | exact (((Below.refl _ w).drew.drew.alloc (Nat.le_refl _) _).setCell (Nat.le_refl _) _) | exact ((Below.refl _ w).drew.drew.alloc (Nat.le_refl _) _) | exact ((Below.refl _ w).alloc (Nat.le_refl _) _).drew.drew); rintro e9 w9 ⟨b9, h91, rfl, h93, h94⟩)
    go_ret
    exact ⟨b9, h91, rfl, h93, h94⟩
theorem kg_but {base pb : Nat} {W W' : World} {cs : Array Value} {fz : Nat × Nat} (hb : base ≤ pb) (hp : W.heap[pb]? = some (.cells cs 79 fz)) (ho : ∀ k, k ≠ pb → k < W.heap.size → W'.heap[k]? = W.heap[k]?) (hos : W'.os = W.os ∧ W'.tape = W.tape ∧ W'.output = W.output) (hs : W.heap.size ≤ W'.heap.size) : KG base W W' := by
  have hl := (Array.getElem?_eq_some_iff.1 hp).1
  refine ⟨⟨hos.1, hos.2.1, hos.2.2, hs, fun k hk => ho k (by omega) (by omega)⟩, fun k cs' ty fz' hk h1 _ => ?_⟩
  refine ho k ?_ (Array.getElem?_eq_some_iff.1 hk).1
  rintro rfl
  rw [hp] at hk
  injection hk with hk
  injection hk with _ hk _
  exact h1 hk.symm
/-- a number of the parser's is written, and a block of one's own -/
theorem fin1 {w w3 : World} {base pb : Nat} {lp : Option Addr} {lc n : Nat} {X : Nat → Tk} {i d : Nat} {md : List Nd} {ks : List Value} (h : PW w base pb lp lc n X ⟨i, d, md⟩ ks) (hb3 : Below w.heap.size w w3) (q : Nat) (hq : (q = 1 ∧ i < n ∧ d ≤ 48) ∨ q = 2) (v : Nat) (hv : (q = 1 ∧ v = i + 1) ∨ (q = 2 ∧ v ≤ 48)) {w5 : World} (h5 : ∀ k, k < w.heap.size → w5.heap[k]? = (w3.setCell ⟨pb, q, none⟩ (.int .i64 (v : Int))).heap[k]?) (hos : w5.os = w3.os ∧ w5.tape = w3.tape ∧ w5.output = w3.output) (hs5 : w.heap.size ≤ w5.heap.size) :
    PW w5 base pb lp lc n X (if q = 1 then ⟨v, d, md⟩ else ⟨i, v, md⟩) ks ∧ KG base w w5 := by
  obtain ⟨mv0, hb0, _⟩ := h.blk
  have hl := (Array.getElem?_eq_some_iff.1 hb0).1
  have ho : ∀ k, k ≠ pb → k < w.heap.size → w5.heap[k]? = w.heap[k]? := fun k hk hlt => (h5 k hlt).trans ((Below.heap_setCell w3 ⟨pb, q, none⟩ _ k hk).trans (hb3.block k hlt))
  refine ⟨?_, kg_but h.pl hb0 ho ⟨hos.1.trans hb3.os, hos.2.1.trans hb3.tape, hos.2.2.trans hb3.output⟩ hs5⟩
  rcases hv with ⟨rfl, rfl⟩ | ⟨rfl, hv⟩
  · rw [if_pos rfl]
    refine h.put (i + 1) d (by rcases hq with ⟨_, h1, _⟩ | h1; omega; omega) h.dp (fun mv hm => ?_) ho hs5
    rw [h5 pb hl, setCell_block w3 pb 1 _ ((hb3.block pb hl).trans hm)]
    rfl
  · rw [if_neg (by decide)]
    refine h.put i v h.nx hv (fun mv hm => ?_) ho hs5
    rw [h5 pb hl, setCell_block w3 pb 2 _ ((hb3.block pb hl).trans hm)]
    rfl
set_option maxRecDepth 100000 in
set_option maxHeartbeats 4000000 in
theorem take_any {w : World} {base pb : Nat} {lp : Option Addr} {lc n : Nat} {X : Nat → Tk} {s : St} {ks : List Value} (h : PW w base pb lp lc n X s ks) (hn : n ≤ 16384) (h0 : 0 < n) (hr : ∀ i, i < n → TkR (X i)) (hg : Sp w) (k : Int) (hk : k ≠ 0) : Calls Tryz.prog 73 #[.pointer (some ⟨pb, 0, none⟩), .int .i64 k] w (FtT base pb lp lc n X w ks (take X n k s)) := by
  have HK : Hid (∀ W, Below w.heap.size w W → Calls Tryz.prog 51 #[.pointer (some ⟨pb, 0, none⟩)] W fun e w' => e = .returned (.int .i64 (kd X n s)) ∧ Below W.heap.size W w') := fun W hW => kind_any (h.below hW) hn
  have HR : Hid (∀ W, Below w.heap.size w W → Calls Tryz.prog 58 #[.pointer (some ⟨pb, 0, none⟩)] W fun e w' => ∃ b, base ≤ b ∧ e = .returned (.iface 56 (.pointer (some ⟨b, 0, none⟩))) ∧ w'.heap[b]? = some (.cells #[.int .i64 (refu X n s).line, .int .i64 (refu X n s).col, .iface 51 (.int .i64 (refu X n s).code)] 59 (0, 0)) ∧ Below w.heap.size w w') := fun W hW => (refusal_any (h.below hW) hn h0 hr).mono fun e w' ⟨b, h1, h2, h3, h4⟩ => ⟨b, Nat.le_trans h.sz (Nat.le_trans hW.size h1), h2, h3, hW.trans (h4.mono hW.size)⟩
  have hsz := h.sz
  by_cases hx : s.nx < n ∧ (X s.nx).kind = k
  case neg =>
    have hkd : ¬ kd X n s = k := by
      unfold kd
      split
      · exact fun e => hk e.symm
      · rename_i h1
        exact fun e => hx ⟨by have := h.nx; omega, e⟩
    unfold take
    rw [if_neg hx]
    obtain ⟨q, hq⟩ : ∃ q, kd X n s = q := ⟨_, rfl⟩
    rw [hq] at HK hkd
    clear hq hx h
    go_enter Tryz.func73, Tryz.ntmps73
    go_wp2_with (first
      | (go_at_call 51; (with_reducible refine (HK.out _ ?_).mono ?_); (exact (Below.refl _ w).alloc (Nat.le_refl _) _); rintro e w1 ⟨rfl, hb1⟩)
      | (go_at_call 58; (with_reducible refine (HR.out _ (((Below.refl _ w).alloc (Nat.le_refl _) _).trans (hb1.mono (by simp)))).mono ?_); rintro e w2 ⟨b2, h21, rfl, h23, h24⟩))
    exact ⟨rfl, b2, rfl, h21, h23, KG.of_below h24 hsz⟩
  case pos =>
    have hkd : kd X n s = k := by
      unfold kd
      rw [if_neg (by omega)]
      exact hx.2
    rw [hkd] at HK
    obtain ⟨i, d, md⟩ := s
    obtain ⟨mv, hb, hO⟩ := h.blk
    have hxn : i < n := hx.1
    obtain ⟨b, o, rfl, hbl, t0, t1, t2, t3, t4⟩ := h.tok (i := i) hxn
    have htr := hr i hxn
    unfold take
    rw [if_pos hx]
    show Calls Tryz.prog 73 #[.pointer (some ⟨pb, 0, none⟩), .int .i64 k] w (FtT base pb (some ⟨b, o, none⟩) lc n X w ks (if k = 1 ∧ wordP (X i).text ≠ 1 then .bad (refu X n ⟨i, d, md⟩) else .ok ⟨i + 1, d, md⟩ (X i)))
    have hxk : (X i).kind = k := hx.2
    obtain ⟨t, ht⟩ : ∃ t, X i = t := ⟨_, rfl⟩
    rw [ht] at t0 t1 t2 t3 t4 htr hxk ⊢
    have hple : pb < w.heap.size := (Array.getElem?_eq_some_iff.1 hb).1
    have hble : b < w.heap.size := Nat.lt_of_lt_of_le hbl hsz
    obtain ⟨c0, c1, c2, c3⟩ := cell_box4 hb
    have HS : Hid (∀ W, Below w.heap.size w W → ((W.cell? ⟨pb, 0, none⟩ = some (.slice (some ⟨b, o, none⟩) n lc) ∧ W.cell? ⟨pb, 1, none⟩ = some (.int .i64 (i : Int))) ∧ (W.cell? ⟨b, o + i * 5, none⟩ = some (.int .i64 t.kind) ∧ W.cell? ⟨b, o + i * 5 + 1, none⟩ = some (.string ⟨t.text.toArray⟩)) ∧ (W.cell? ⟨b, o + i * 5 + 2, none⟩ = some (.int .u64 (t.num : Int)) ∧ W.cell? ⟨b, o + i * 5 + 3, none⟩ = some (.int .i64 t.line)) ∧ W.cell? ⟨b, o + i * 5 + 4, none⟩ = some (.int .i64 t.col))) := fun W hW => by
      have k : ∀ c, c < w.heap.size → W.heap[c]? = w.heap[c]? := hW.block
      have k1 : W.heap[pb]? = w.heap[pb]? := k pb hple
      have k2 : W.heap[b]? = w.heap[b]? := k b hble
      exact ⟨⟨(World.cell?_of_block (a := ⟨pb, 0, none⟩) k1).trans c0, (World.cell?_of_block (a := ⟨pb, 1, none⟩) k1).trans c1⟩, ⟨(World.cell?_of_block (a := ⟨b, o + i * 5, none⟩) k2).trans t0, (World.cell?_of_block (a := ⟨b, o + i * 5 + 1, none⟩) k2).trans t1⟩, ⟨(World.cell?_of_block (a := ⟨b, o + i * 5 + 2, none⟩) k2).trans t2, (World.cell?_of_block (a := ⟨b, o + i * 5 + 3, none⟩) k2).trans t3⟩, (World.cell?_of_block (a := ⟨b, o + i * 5 + 4, none⟩) k2).trans t4⟩
    have i0 : (0 : Int) ≤ (i : Int) := by omega
    have i1 : (i : Int) < (n : Int) := by omega
    have ei : IntKind.i64.wrap ((i : Int) + 1) = ((i + 1 : Nat) : Int) := by rw [IntKind.wrap_i64]; omega
    have HW : Hid (∀ W, Below w.heap.size w W → Calls Tryz.prog 92 #[.string ⟨t.text.toArray⟩] W fun e w' => e = .returned (.int .i64 (wordP t.text)) ∧ Below W.heap.size W w') := fun W hW => word_any t.text htr.x W (hg.keep hW)
    have HPW : Hid (PW w base pb (some ⟨b, o, none⟩) lc n X ⟨i, d, md⟩ ks) := h
    have HB : Hid (w.heap[pb]? = some (.cells #[.slice (some ⟨b, o, none⟩) n lc, .int .i64 (i : Int), .int .i64 (d : Int), mv] 79 (0, 0))) := hb
    have HXK : Hid (t.kind = k) := hxk
    obtain ⟨R, hR⟩ : ∃ R, (if k = 1 ∧ wordP t.text ≠ 1 then Pr.bad (refu X n ⟨i, d, md⟩) else Pr.ok ⟨i + 1, d, md⟩ t) = R := ⟨_, rfl⟩
    rw [hR]
    have HRR := mhid hR
    clear hR
    clear hxk
    clear h hb hO hr hg htr c0 c1 c2 c3 t0 t1 t2 t3 t4 hx hkd
    go_enter Tryz.func73, Tryz.ntmps73
    go_upto_region 3 with (go_at_call 51; (with_reducible refine (HK.out _ ?_).mono ?_); (exact (Below.refl _ w).alloc (Nat.le_refl _) _); rintro e w1 ⟨rfl, hb1⟩)
    have hw1 : Below w.heap.size w w1 := ((Below.refl _ w).alloc (Nat.le_refl _) _).trans (hb1.mono (by simp))
    have hbx : w1.heap[w.heap.size]? = some (.cells #[.int .i64 0, .string ⟨#[]⟩, .int .u64 0, .int .i64 0, .int .i64 0] 40 (0, 0)) := (hb1.block _ (by simp)).trans (World.alloc_heap_new w _)
    have hl1 : w.heap.size < w1.heap.size := Nat.lt_of_lt_of_le (by simp) hb1.size
    have hS := HS.out w1.drew hw1.drew
    obtain ⟨⟨q0, q1⟩, ⟨q2, q3⟩, ⟨q4, q5⟩, q6⟩ := HS.out w1 hw1
    have n1 : w1.heap.size ≠ pb := by omega
    have n2 : w1.heap.size ≠ b := by omega
    have HW1 : Hid (Below w.heap.size w w1) := hw1
    clear hb1 HK hw1
    go_region_held3 (fun W => (W.cell? ⟨pb, 0, none⟩ = some (.slice (some ⟨b, o, none⟩) n lc) ∧ W.cell? ⟨pb, 1, none⟩ = some (.int .i64 (i : Int))) ∧ (W.cell? ⟨b, o + i * 5, none⟩ = some (.int .i64 t.kind) ∧ W.cell? ⟨b, o + i * 5 + 1, none⟩ = some (.string ⟨t.text.toArray⟩)) ∧ (W.cell? ⟨b, o + i * 5 + 2, none⟩ = some (.int .u64 (t.num : Int)) ∧ W.cell? ⟨b, o + i * 5 + 3, none⟩ = some (.int .i64 t.line)) ∧ W.cell? ⟨b, o + i * 5 + 4, none⟩ = some (.int .i64 t.col)) (first | exact hS | go_keep) (fail)
    obtain ⟨w2, hw2⟩ : ∃ w2, (w1.alloc (.cells #[.int .i64 t.kind, .string ⟨t.text.toArray⟩, .int .u64 (t.num : Int), .int .i64 t.line, .int .i64 t.col] 40)).drew = w2 := ⟨_, rfl⟩
    have hb2 : Below w1.heap.size w1 w2 := by rw [← hw2]; exact ((Below.refl _ w1).alloc (Nat.le_refl _) _).drew
    have HB2 : Hid (Below w.heap.size w w2) := HW1.out.trans (hb2.mono HW1.out.size)
    have HX2 : Hid (∀ W, Below w2.heap.size w2 W → W.heap[w.heap.size]? = some (.cells #[.int .i64 0, .string ⟨#[]⟩, .int .u64 0, .int .i64 0, .int .i64 0] 40 (0, 0)) ∧ W.heap[w1.heap.size]? = some (.cells #[.int .i64 t.kind, .string ⟨t.text.toArray⟩, .int .u64 (t.num : Int), .int .i64 t.line, .int .i64 t.col] 40 (0, 0)) ∧ W.heap[pb]? = some (.cells #[.slice (some ⟨b, o, none⟩) n lc, .int .i64 (i : Int), .int .i64 (d : Int), mv] 79 (0, 0))) := fun W hW => by
      have e1 : w2.heap[w1.heap.size]? = some (.cells #[.int .i64 t.kind, .string ⟨t.text.toArray⟩, .int .u64 (t.num : Int), .int .i64 t.line, .int .i64 t.col] 40 (0, 0)) := by rw [← hw2]; exact World.alloc_heap_new w1 _
      have l1 : w1.heap.size < w2.heap.size := (Array.getElem?_eq_some_iff.1 e1).1
      exact ⟨(hW.block _ (by omega)).trans ((hb2.block _ hl1).trans hbx), (hW.block _ l1).trans e1, (hW.block _ (by omega)).trans ((HB2.out.block _ hple).trans HB.out)⟩
    rw [hw2]
    have hbl2 : w1.heap.size < w2.heap.size := (Array.getElem?_eq_some_iff.1 (HX2.out w2 (Below.refl _ _)).2.1).1
    clear hw2 hb2 hbx hS q0 q1 q2 q3 q4 q5 q6 n1 n2 HS
    have n3 : ¬ (w.heap.size = pb) := by omega
    have n4 : ¬ (w1.heap.size = pb) := by omega
    have n5 : ¬ (w1.heap.size = w.heap.size) := by omega
    by_cases hk1 : k = 1
    · subst hk1
      by_cases hwp : wordP t.text = 1
      · have HRV : Hid (R = .ok ⟨i + 1, d, md⟩ t) := by have h9 := HRR.out; rw [if_neg (fun h => h.2 hwp)] at h9; exact h9.symm
        rw [hwp] at HW
        obtain ⟨u0, u1, u2, u3, u4⟩ := cell_box5 (HX2.out w2 (Below.refl _ _)).2.1
        go_upto_region 6 with (go_at_call 92; (with_reducible refine (HW.out _ HB2.out).mono ?_); rintro e w3 ⟨rfl, hb3⟩)
        have HB3 : Hid (Below w.heap.size w w3) := HB2.out.trans (hb3.mono HB2.out.size)
        have HBB : Hid (Below w2.heap.size w2 w3) := hb3
        clear hb3 u0 u1 u2 u3 u4
        obtain ⟨x1, x2, x3⟩ := HX2.out w3 HBB.out
        obtain ⟨p0, p1, p2, p3⟩ := cell_box4 x3
        obtain ⟨u0, u1, u2, u3, u4⟩ := cell_box5 x2
        have f1 : w3.frozen? ⟨pb, 1, none⟩ = false := frz_box x3
        go_upto_region 7 with fail
        obtain ⟨w4, hw4⟩ : ∃ w4, w3.setCell ⟨pb, 1, none⟩ (.int .i64 ((i : Int) + 1)) = w4 := ⟨_, rfl⟩
        have y1 : w4.heap[w.heap.size]? = some (.cells #[.int .i64 0, .string ⟨#[]⟩, .int .u64 0, .int .i64 0, .int .i64 0] 40 (0, 0)) := by rw [← hw4]; exact (Below.heap_setCell _ _ _ _ n3).trans x1
        have y2 : w4.heap[w1.heap.size]? = some (.cells #[.int .i64 t.kind, .string ⟨t.text.toArray⟩, .int .u64 (t.num : Int), .int .i64 t.line, .int .i64 t.col] 40 (0, 0)) := by rw [← hw4]; exact (Below.heap_setCell _ _ _ _ n4).trans x2
        obtain ⟨z0, z1, z2, z3, z4⟩ := cell_box5 y2
        rw [hw4]
        obtain ⟨w5, hw5, r5, k0, k1, k2, k3, k4, _⟩ := row5 y1 (Below.refl 0 w4) (Nat.zero_le _) (.int .i64 t.kind) (.string ⟨t.text.toArray⟩) (.int .u64 (t.num : Int)) (.int .i64 t.line) (.int .i64 t.col)
        have hfin := fin1 HPW.out (w3 := w3) HB3.out 1 (.inl ⟨rfl, hxn, HPW.out.dp⟩) (i + 1) (.inl ⟨rfl, rfl⟩) (w5 := w5) (fun k hk => by rw [show ((i + 1 : Nat) : Int) = (i : Int) + 1 from rfl, hw4, ← hw5]; exact setRow_other w4 w.heap.size k _ (by omega)) (by rw [← hw5, ← hw4]; exact ⟨rfl, rfl, rfl⟩) (by rw [← hw5, ← hw4]; simp; exact HB3.out.size)
        rw [if_pos rfl] at hfin
        have HFIN := mhid hfin
        clear hw4 hfin x1 x2 x3 p0 p1 p2 p3 u0 u1 u2 u3 u4 f1 y2
        go_wp2_with (refine wpList_store_row rfl _ _ _ rfl w.heap.size #[.int .i64 t.kind, .string ⟨t.text.toArray⟩, .int .u64 (t.num : Int), .int .i64 t.line, .int .i64 t.col] rfl rfl _ _ y1 (by kernel_rfl) rfl (by kernel_rfl) ?_; rw [hw5]; clear hw5 y1)
        refine bodyPost_ret (by simp [results, Tryz.results73, go_sem, k0, k1, k2, k3, k4]; try rfl) rfl ?_
        rw [HRV.out]; exact ⟨rfl, HFIN.out.1, HFIN.out.2⟩
      · have HRV : Hid (R = .bad (refu X n ⟨i, d, md⟩)) := by have h9 := HRR.out; rw [if_pos ⟨rfl, hwp⟩] at h9; exact h9.symm
        obtain ⟨wp, hwpe⟩ : ∃ wp, wordP t.text = wp := ⟨_, rfl⟩
        rw [hwpe] at HW hwp
        have hwp2 : ¬ ((wp : Int) = 1) := by omega
        obtain ⟨u0, u1, u2, u3, u4⟩ := cell_box5 (HX2.out w2 (Below.refl _ _)).2.1
        clear hwpe
        go_wp2_with (first
          | (go_at_call 92; (with_reducible refine (HW.out _ HB2.out).mono ?_); rintro e w3 ⟨rfl, hb3⟩)
          | (go_at_call 58; (with_reducible refine (HR.out _ (HB2.out.trans (hb3.mono HB2.out.size))).mono ?_); rintro e w4 ⟨b4, h41, rfl, h43, h44⟩))
        exact ⟨rfl, by rw [HRV.out]; exact ⟨b4, rfl, h41, h43, KG.of_below h44 hsz⟩⟩
    · have HRV : Hid (R = .ok ⟨i + 1, d, md⟩ t) := by have h9 := HRR.out; rw [if_neg (fun h => hk1 h.1)] at h9; exact h9.symm
      obtain ⟨x1, x2, x3⟩ := HX2.out w2 (Below.refl _ _)
      obtain ⟨p0, p1, p2, p3⟩ := cell_box4 x3
      obtain ⟨u0, u1, u2, u3, u4⟩ := cell_box5 x2
      have f1 : w2.frozen? ⟨pb, 1, none⟩ = false := frz_box x3
      go_upto_region 7 with fail
      obtain ⟨w4, hw4⟩ : ∃ w4, w2.setCell ⟨pb, 1, none⟩ (.int .i64 ((i : Int) + 1)) = w4 := ⟨_, rfl⟩
      have y1 : w4.heap[w.heap.size]? = some (.cells #[.int .i64 0, .string ⟨#[]⟩, .int .u64 0, .int .i64 0, .int .i64 0] 40 (0, 0)) := by rw [← hw4]; exact (Below.heap_setCell _ _ _ _ n3).trans x1
      have y2 : w4.heap[w1.heap.size]? = some (.cells #[.int .i64 t.kind, .string ⟨t.text.toArray⟩, .int .u64 (t.num : Int), .int .i64 t.line, .int .i64 t.col] 40 (0, 0)) := by rw [← hw4]; exact (Below.heap_setCell _ _ _ _ n4).trans x2
      obtain ⟨z0, z1, z2, z3, z4⟩ := cell_box5 y2
      rw [hw4]
      obtain ⟨w5, hw5, r5, k0, k1, k2, k3, k4, _⟩ := row5 y1 (Below.refl 0 w4) (Nat.zero_le _) (.int .i64 t.kind) (.string ⟨t.text.toArray⟩) (.int .u64 (t.num : Int)) (.int .i64 t.line) (.int .i64 t.col)
      have hfin := fin1 HPW.out (w3 := w2) HB2.out 1 (.inl ⟨rfl, hxn, HPW.out.dp⟩) (i + 1) (.inl ⟨rfl, rfl⟩) (w5 := w5) (fun k hk => by rw [show ((i + 1 : Nat) : Int) = (i : Int) + 1 from rfl, hw4, ← hw5]; exact setRow_other w4 w.heap.size k _ (by omega)) (by rw [← hw5, ← hw4]; exact ⟨rfl, rfl, rfl⟩) (by rw [← hw5, ← hw4]; simp; exact HB2.out.size)
      rw [if_pos rfl] at hfin
      have HFIN := mhid hfin
      clear hw4 hfin x1 x2 x3 p0 p1 p2 p3 u0 u1 u2 u3 u4 f1 y2
      go_wp2_with (refine wpList_store_row rfl _ _ _ rfl w.heap.size #[.int .i64 t.kind, .string ⟨t.text.toArray⟩, .int .u64 (t.num : Int), .int .i64 t.line, .int .i64 t.col] rfl rfl _ _ y1 (by kernel_rfl) rfl (by kernel_rfl) ?_; rw [hw5]; clear hw5 y1)
      refine bodyPost_ret (by simp [results, Tryz.results73, go_sem, k0, k1, k2, k3, k4]; try rfl) rfl ?_
      rw [HRV.out]; exact ⟨rfl, HFIN.out.1, HFIN.out.2⟩
end Go.Proofs.YtmekcccmnkgodaaGreatDoor
