import Derived.Test.YtlldhjobfgkfcaaDoorChecked
import Derived.WalkKit
import Derived.ProofKit
import Derived.OpenShut
import Derived.BigRegion
import Derived.BigQuiet
import Derived.Deep.AppendLies
import Derived.Laws.AppendOwnNone
import Derived.Laws.CopyOwn
import Derived.RangeFuncBox
import Derived.RangeFuncOwn
import Derived.Maps.AppendAt
namespace Go.Proofs.YtlldhjobfgkfcaaDoor
open Go.ChangeShapes Go.WideShapes Go.ChangeAt Go.RowKit
set_option linter.unusedVariables false

/-! ### a list of places, wherever it lies -/
structure Plc where
  name : ByteArray
  typ : Int
  pos : Int
  size : Int
def plc (x : Plc) : Nat → Value
  | 0 => .string x.name
  | 1 => .int .i64 x.typ
  | 2 => .int .i64 x.pos
  | _ => .int .i64 x.size
def plcs (N : Nat → Plc) (n : Nat) : List Value := (List.range (n * 4)).map fun j => plc (N (j / 4)) (j % 4)
theorem plcs_len (N : Nat → Plc) (n : Nat) : (plcs N n).length = n * 4 := by simp [plcs]
theorem plcs_at (N : Nat → Plc) (n i k : Nat) (hi : i < n) (hk : k < 4) : (plcs N n)[i * 4 + k]? = some (plc (N i) k) := by
  unfold plcs
  rw [List.getElem?_map, List.getElem?_range (by omega)]
  have e1 : (i * 4 + k) / 4 = i := by omega
  have e2 : (i * 4 + k) % 4 = k := by omega
  simp [e1, e2]
theorem plcs_back (N : Nat → Plc) (n j : Nat) (u : Value) (h : (plcs N n)[j]? = some u) : j < n * 4 ∧ u = plc (N (j / 4)) (j % 4) := by
  have hj : j < (plcs N n).length := (List.getElem?_eq_some_iff.1 h).1
  rw [plcs_len] at hj
  refine ⟨hj, ?_⟩
  unfold plcs at h
  rw [List.getElem?_map, List.getElem?_range hj] at h
  exact (Option.some.inj h).symm
theorem plc_one (x : Plc) (k : Nat) : (plc x k).oneCell' = true := by
  unfold plc
  split <;> rfl
/-- what comes in -/
def QSrc (W : World) (p : Option Addr) (n c : Nat) (N : Nat → Plc) : Prop :=
  (p = none ∧ n = 0 ∧ c = 0) ∨ ∃ a, p = some a ∧ ∀ j u, (plcs N n)[j]? = some u → W.cell? (a.add j) = some u
/-- what the walks read -/
def QAt (W : World) (p : Option Addr) (n : Nat) (N : Nat → Plc) : Prop :=
  n = 0 ∨ ∃ b, p = some ⟨b, 0, none⟩ ∧ b < W.heap.size ∧ ∀ i, i < n → W.cell? ⟨b, i * 4, none⟩ = some (.string (N i).name) ∧ W.cell? ⟨b, i * 4 + 1, none⟩ = some (.int .i64 (N i).typ) ∧ W.cell? ⟨b, i * 4 + 2, none⟩ = some (.int .i64 (N i).pos) ∧ W.cell? ⟨b, i * 4 + 3, none⟩ = some (.int .i64 (N i).size)
theorem cell_below {W W' : World} {a : Addr} (hb : Below W.heap.size W W') (hlt : a.block < W.heap.size) : W'.cell? a = W.cell? a := by
  unfold World.cell?
  rw [hb.block _ hlt]
theorem QAt.below {W W' : World} {p : Option Addr} {n : Nat} {N : Nat → Plc} (h : QAt W p n N) (hb : Below W.heap.size W W') : QAt W' p n N := by
  rcases h with h | ⟨b, rfl, hl, hc⟩
  · exact .inl h
  · refine .inr ⟨b, rfl, Nat.lt_of_lt_of_le hl hb.size, fun i hi => ?_⟩
    obtain ⟨h0, h1, h2, h3⟩ := hc i hi
    have c : ∀ k, W'.cell? ⟨b, k, none⟩ = W.cell? ⟨b, k, none⟩ := fun k => cell_below (a := ⟨b, k, none⟩) hb hl
    exact ⟨(c _).trans h0, (c _).trans h1, (c _).trans h2, (c _).trans h3⟩
theorem QSrc.below {W W' : World} {p : Option Addr} {n c : Nat} {N : Nat → Plc} (h : QSrc W p n c N) (hb : Below W.heap.size W W') : QSrc W' p n c N := by
  rcases h with h | ⟨a, rfl, hc⟩
  · exact .inl h
  · refine .inr ⟨a, rfl, fun j u hj => ?_⟩
    have := hc j u hj
    exact (cell_below hb (World.block_lt_of_cell? _ _ this)).trans this
theorem addr_add' (b off i : Nat) : (⟨b, off, none⟩ : Addr).add i = ⟨b, off + i, none⟩ := by
  unfold Addr.add
  by_cases hi : i = 0 <;> simp [hi]
theorem own_slice {W : World} {base : Nat} {e : TypeId} {size : Nat} {v : Value} {k : Nat} {xs : List Value} (h : W.ownsRow base e size v k xs) : ∃ p c, v = .slice p k c ∧ (p = none ∧ k = 0 ∨ ∃ g, p = some ⟨g, 0, none⟩) := by
  rcases h.2 with ⟨rfl, rfl⟩ | ⟨g', cap, cur, rfl, _⟩
  · exact ⟨_, _, rfl, .inl ⟨rfl, rfl⟩⟩
  · exact ⟨_, _, rfl, .inr ⟨_, rfl⟩⟩
theorem own_at {W : World} {base n : Nat} {p : Option Addr} {c : Nat} {N : Nat → Plc} (h : W.ownsRow base 39 4 (.slice p n c) n (plcs N n)) (hp : p = none ∧ n = 0 ∨ ∃ g, p = some ⟨g, 0, none⟩) : QAt W p n N := by
  rcases hp with ⟨_, h0⟩ | ⟨g, rfl⟩
  · exact .inl h0
  · have hc := h.cells (g := g) rfl
    refine .inr ⟨g, rfl, (h.lt g rfl).2, fun i hi => ⟨?_, ?_, ?_, ?_⟩⟩
    · have := hc (i * 4 + 0) _ (plcs_at N n i 0 hi (by decide))
      simpa [addr_add', plc] using this
    · have := hc (i * 4 + 1) _ (plcs_at N n i 1 hi (by decide))
      simpa [addr_add', plc] using this
    · have := hc (i * 4 + 2) _ (plcs_at N n i 2 hi (by decide))
      simpa [addr_add', plc] using this
    · have := hc (i * 4 + 3) _ (plcs_at N n i 3 hi (by decide))
      simpa [addr_add', plc] using this
theorem infoPl : (Tryd.prog.info? 39).map (fun i => (i.zero, i.size, i.bytes)) = some (some (.agg #[.string ⟨#[]⟩, .int .i64 0, .int .i64 0, .int .i64 0]), 4, 40) := by kernel_rfl
theorem info_parts' {i? : Option TypeInfo} {z : Value} {s b : Nat} (h : i?.map (fun i => (i.zero, i.size, i.bytes)) = some (some z, s, b)) : ∃ i, i? = some i ∧ i.zero = some z ∧ i.size = s ∧ i.bytes = b := by
  cases i? with
  | none => cases h
  | some i =>
    simp at h
    exact ⟨i, rfl, h.1, h.2.1, h.2.2⟩
def sceneV (v : Value) : Value := .agg #[.slice none 0 0, .slice none 0 0, .slice none 0 0, v, .slice none 0 0, .slice none 0 0, .int .u64 0, .int .u64 0, .int .u64 0, .int .i64 0, .int .i64 0]

theorem infoSc : (Tryd.prog.info? 33).map (·.size) = some 11 := by kernel_rfl
theorem sceneOne (q : Option Addr) (n d : Nat) : (#[.slice none 0 0, .slice none 0 0, .slice none 0 0, .slice q n d, .slice none 0 0, .slice none 0 0, .int .u64 0, .int .u64 0, .int .u64 0, .int .i64 0, .int .i64 0] : Array Value).all (·.oneCell') = true := by simp [Value.oneCell']
theorem cells11 {W : World} {b : Nat} {c0 c1 c2 c3 c4 c5 c6 c7 c8 c9 c10 : Value} {t : TypeId} (h : W.heap[b]? = some (.cells #[c0, c1, c2, c3, c4, c5, c6, c7, c8, c9, c10] t (0, 0))) : W.cell? ⟨b, 0, none⟩ = some c0 ∧ W.cell? ⟨b, 1, none⟩ = some c1 ∧ W.cell? ⟨b, 2, none⟩ = some c2 ∧ W.cell? ⟨b, 3, none⟩ = some c3 ∧ W.cell? ⟨b, 4, none⟩ = some c4 ∧ W.cell? ⟨b, 5, none⟩ = some c5 ∧ W.cell? ⟨b, 6, none⟩ = some c6 ∧ W.cell? ⟨b, 7, none⟩ = some c7 ∧ W.cell? ⟨b, 8, none⟩ = some c8 ∧ W.cell? ⟨b, 9, none⟩ = some c9 ∧ W.cell? ⟨b, 10, none⟩ = some c10 := by
  refine ⟨?_, ?_, ?_, ?_, ?_, ?_, ?_, ?_, ?_, ?_, ?_⟩
  all_goals (unfold World.cell?; rw [h]; rfl)
set_option maxRecDepth 100000 in
set_option maxHeartbeats 1000000 in
theorem scene_any (p : Option Addr) (n c : Nat) (N : Nat → Plc) (hn : n * 40 ≤ 140737488351232) (w : World) (hp : QSrc w p n c N) :
    Calls Tryd.prog 5 #[.slice p n c] w fun e w' => ∃ q d, e = .returned (sceneV (.slice q n d)) ∧ QAt w' q n N ∧ Below w.heap.size w w' := by
  obtain ⟨i0, hi, hz0, hz1, hz2⟩ := info_parts' infoPl
  go_enter Tryd.func5, Tryd.ntmps5
  have B0 : Below w.heap.size w (w.alloc (.cells #[.slice none 0 0, .slice none 0 0, .slice none 0 0, .slice none 0 0, .slice none 0 0, .slice none 0 0, .int .u64 0, .int .u64 0, .int .u64 0, .int .i64 0, .int .i64 0] 33)) := (Below.refl _ w).alloc (Nat.le_refl _) _
  have K0 := World.alloc_heap_new w (.cells #[.slice none 0 0, .slice none 0 0, .slice none 0 0, .slice none 0 0, .slice none 0 0, .slice none 0 0, .int .u64 0, .int .u64 0, .int .u64 0, .int .i64 0, .int .i64 0] 33)
  have S0 := World.size_alloc w (.cells #[.slice none 0 0, .slice none 0 0, .slice none 0 0, .slice none 0 0, .slice none 0 0, .slice none 0 0, .int .u64 0, .int .u64 0, .int .u64 0, .int .i64 0, .int .i64 0] 33)
  rcases hp with ⟨rfl, rfl, rfl⟩ | ⟨a, rfl, hc⟩
  · obtain ⟨d0, d1, d2, d3, d4, d5, d6, d7, d8, d9, d10⟩ := cells11 K0
    go_wp2
    refine bodyPost_ret (by simp [results, Tryd.results5, go_sem, d0, d1, d2, d3, d4, d5, d6, d7, d8, d9, d10]; try rfl) rfl ?_
    exact ⟨none, 0, rfl, .inl rfl, B0⟩
  · have hc' : Hid (∀ j u, (plcs N n)[j]? = some u → (w.alloc (.cells #[.slice none 0 0, .slice none 0 0, .slice none 0 0, .slice none 0 0, .slice none 0 0, .slice none 0 0, .int .u64 0, .int .u64 0, .int .u64 0, .int .i64 0, .int .i64 0] 33)).cell? (a.add j) = some u) := fun j u hj => by
      have := hc j u hj
      exact (cell_below B0 (World.block_lt_of_cell? _ _ this)).trans this
    have HB0 : Hid (Below w.heap.size w (w.alloc (.cells #[.slice none 0 0, .slice none 0 0, .slice none 0 0, .slice none 0 0, .slice none 0 0, .slice none 0 0, .int .u64 0, .int .u64 0, .int .u64 0, .int .i64 0, .int .i64 0] 33))) := B0
    have p1 : 0 + n ≤ maxLen := by unfold maxLen; omega
    have p2 : (0 + n) * 40 ≤ 140737488355328 := by omega
    have hle : w.heap.size + 1 ≤ (w.alloc (.cells #[.slice none 0 0, .slice none 0 0, .slice none 0 0, .slice none 0 0, .slice none 0 0, .slice none 0 0, .int .u64 0, .int .u64 0, .int .u64 0, .int .i64 0, .int .i64 0] 33)).heap.size := by rw [S0]; exact Nat.le_refl _
    clear hc B0
    go_wp2_with (first | (at_builtin; refine wpList_append_own_at _ rfl _ _ 22 rfl (w.heap.size + 1) 39 i0 _ 4 40 Tryd.underlying22 hi hz0 hz1 hz2 rfl (by decide) _ _ _ rfl (World.ownsRow_nil _ _ _ _) a n c (plcs N n) rfl (plcs_len N n) hc'.out (fun u hu => by obtain ⟨j, hj⟩ := List.getElem?_of_mem hu; rw [(plcs_back N n j u hj).2]; exact plc_one _ _) p1 p2 hle ?_; intro v' w3 hown' hgrow _ _; rw [Nat.zero_add, List.nil_append] at hown'; obtain ⟨q, d, rfl, hq⟩ := own_slice hown'; have K3 := (hgrow.block w.heap.size (by rw [S0]; exact Nat.lt_succ_self _) (by intro e; cases e)).trans K0) | refine wpList_store_row rfl 33 _ _ rfl w.heap.size _ rfl rfl _ _ K3 infoSc rfl (sceneOne _ _ _) ?_)
    have K4 := setRow_heap w3 w.heap.size _ #[.slice none 0 0, .slice none 0 0, .slice none 0 0, .slice q n d, .slice none 0 0, .slice none 0 0, .int .u64 0, .int .u64 0, .int .u64 0, .int .i64 0, .int .i64 0] _ _ K3
    obtain ⟨d0, d1, d2, d3, d4, d5, d6, d7, d8, d9, d10⟩ := cells11 K4
    have hG := hgrow.block
    have hbel : Below w.heap.size w w3 := HB0.out.grown hgrow (by rw [S0]; exact Nat.le_succ _) (fun r e => by cases e)
    refine bodyPost_ret (by simp [results, Tryd.results5, go_sem, d0, d1, d2, d3, d4, d5, d6, d7, d8, d9, d10]; try rfl) rfl ?_
    refine ⟨q, d, rfl, ?_, ?_⟩
    · have ho := own_at hown' hq
      rcases ho with h | ⟨b, rfl, hl, hcc⟩
      · exact .inl h
      · have hb1 := (hown'.lt b rfl).1
        have hst : ∀ k, (w3.setRow w.heap.size #[.slice none 0 0, .slice none 0 0, .slice none 0 0, .slice (some ⟨b, 0, none⟩) n d, .slice none 0 0, .slice none 0 0, .int .u64 0, .int .u64 0, .int .u64 0, .int .i64 0, .int .i64 0]).cell? ⟨b, k, none⟩ = w3.cell? ⟨b, k, none⟩ := fun k => World.cell?_of_block (setRow_other w3 w.heap.size b _ (by omega))
        refine .inr ⟨b, rfl, by simpa [World.setRow] using hl, fun i hi' => ?_⟩
        obtain ⟨g0, g1, g2, g3⟩ := hcc i hi'
        exact ⟨(hst _).trans g0, (hst _).trans g1, (hst _).trans g2, (hst _).trans g3⟩
    · exact below_setRow hbel (Nat.le_refl _) _
end Go.Proofs.YtlldhjobfgkfcaaDoor
