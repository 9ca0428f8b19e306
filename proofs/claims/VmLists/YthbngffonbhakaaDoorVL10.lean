import Derived.Test.YthbngffonbhakaaDoorVL9
import Derived.BigQuiet
import Derived.Deep.RegionLaw
import Derived.Deep.RegionHeld3
import Derived.Deep.Cut
import Derived.Deep.DeepCutAuto
import Derived.Deep.CutBlock
import Derived.Deep.CutRange
import Derived.Handy
import Derived.Test.YthbngffonbhakaaDoorRows
import Derived.Deep.Slices
import Derived.SizedLaws
import Derived.Lib.LaidTab
import Derived.Lay
import Derived.Stop.LaidErr
namespace Go.Proofs.YthbngffonbhakaaDoor
open Go.ChangeShapes Go.WideShapes Go.ChangeAt Go.RowKit Go.Deep Go.Sort
set_option linter.unusedVariables false
set_option linter.unusedSimpArgs false

set_option maxRecDepth 100000
theorem lst3 {α : Type} {l : List α} (h : l.length = 3) : ∃ a b c, l = [a, b, c] := by
  match l, h with
  | [a, b, c], _ => exact ⟨a, b, c, rfl⟩
theorem lst4 {α : Type} {l : List α} (h : l.length = 4) : ∃ a b c d, l = [a, b, c, d] := by
  match l, h with
  | [a, b, c, d], _ => exact ⟨a, b, c, d, rfl⟩
theorem mem_all {H : Type} {P : Program} {e : TypeId} {d : DataW H} : ∀ {l : List (DataW H)}, d ∈ l → ∀ x ∈ d.weights P e, x ∈ DataW.weightsAll P e l
  | [], h, _, _ => by cases h
  | a :: l, h, x, hx => by
    simp only [DataW.weightsAll, List.mem_append]
    rcases List.mem_cons.1 h with rfl | h
    · exact .inl hx
    · exact .inr (mem_all h x hx)
theorem view_ints {H : Type} {enc : TypeId × Value → H} {W : World} {fuel : Nat} {kv : Value} {x : DataW H × List MemPlace} (h : DataW.trod enc Tryd.prog W 0 (fun _ => true) true fuel 23 [kv] = some x) (hw : ∀ y ∈ x.1.weights Tryd.prog 23, y ≤ reachBytes) :
    ∃ (p : Option Addr) (n c : Nat) (K : Nat → Int), kv = .slice p n c ∧ KAt W p n K ∧ n ≤ 17592186044416 := by
  rcases open_ints Tryd.underlying23 Tryd.underlying3 (by kernel_rfl) h with ⟨hcs, _⟩ | ⟨a, len, cap, zs, hcs, _, hl, hm, hz, hx, hcell, hwz⟩
  · simp at hcs
    subst hcs
    exact ⟨none, 0, 0, fun _ => 0, rfl, .inl rfl, by omega⟩
  · simp at hcs
    subst hcs
    simp only [if_true] at hz
    have hb : len * 8 ≤ reachBytes := by
      have := hw ((len + (cap - len)) * 8) (by
        rw [hx]
        simp only [DataW.weights, Tryd.underlying23]
        rw [show Tryd.prog.bytesOf 3 = 8 from by kernel_rfl]
        simp [lits]
        left
        congr 1
        omega)
      have e : len + (cap - len) = cap := by omega
      rw [e] at this
      omega
    refine ⟨some a, len, cap, fun i => zs.getD i 0, rfl, ?_, by unfold reachBytes at hb; omega⟩
    rcases Nat.eq_zero_or_pos len with z | z
    · exact .inl z
    · obtain ⟨b, off, spot⟩ := a
      have h0 := hcell 0 (by omega)
      have hspot : spot = none := by simpa [Addr.add] using World.cell?_spot h0
      subst hspot
      have hbl := World.block_lt_of_cell? _ _ h0
      exact .inr ⟨b, off, rfl, by simpa [Addr.add] using hbl, fun i hi => by simpa [addr_add] using hcell i (by omega)⟩
structure In3 where
  o : Int
  a : Int
  b : Int
theorem i64b {n : Int} (h : (Lit.int IntKind.i64 n).wf = true) : I64 n := by have := bounds_i64 h; exact ⟨by omega, by omega⟩
theorem view_instr2 {H : Type} {enc : TypeId × Value → H} {W : World} {fuel : Nat} {cs : List Value} {x : DataW H × List MemPlace} (h : DataW.trod enc Tryd.prog W 0 (fun _ => true) true fuel 35 cs = some x) (hl : cs.length = 3) :
    ∃ X : In3, cs = [.int .i64 X.o, .int .i64 X.a, .int .i64 X.b] ∧ (I64 X.a ∧ I64 X.b) := by
  obtain ⟨c0, c1, c2, rfl⟩ := lst3 hl
  obtain ⟨xs, n, _, hx0, _, hxl, hx⟩ := DataW.trod_struct Tryd.underlying35 h
  obtain ⟨y0, y1, y2, rfl⟩ := lst3 (by simpa using hxl)
  have k3 : Tryd.prog.cellsOf 3 = 1 := by kernel_rfl
  have k2 : Tryd.prog.cellsOf 2 = 1 := by kernel_rfl
  have g0 := hx 0 _ rfl
  have g1 := hx 1 _ rfl
  have g2 := hx 2 _ rfl
  simp [k3, k2] at g0 g1 g2
  obtain ⟨x0, s0, _, w0⟩ := DataW.trod_int Tryd.underlying3 g0
  obtain ⟨x1, s1, _, w1⟩ := DataW.trod_int Tryd.underlying2 g1
  obtain ⟨x2, s2, _, w2⟩ := DataW.trod_int Tryd.underlying2 g2
  simp at s0 s1 s2
  subst s0 s1 s2
  exact ⟨⟨x0, x1, x2⟩, rfl, ⟨i64b w1, i64b w2⟩⟩
theorem view_code2 {H : Type} {enc : TypeId × Value → H} {W : World} {fuel : Nat} {kv : Value} {x : DataW H × List MemPlace} (h : DataW.trod enc Tryd.prog W 0 (fun _ => true) true fuel 22 [kv] = some x) (hw : ∀ y ∈ x.1.weights Tryd.prog 22, y ≤ reachBytes) :
    ∃ (p : Option Addr) (n c : Nat) (op a b : Nat → Int), kv = .slice p n c ∧ IAt W p n op a b ∧ n * 24 ≤ 140737488351232 ∧ ∀ i, i < n → I64 (a i) ∧ I64 (b i) := by
  have k30 : Tryd.prog.cellsOf 35 = 3 := by kernel_rfl
  rcases open_slice Tryd.underlying22 h with ⟨hcs, _⟩ | ⟨a, len, cap, m, n', D, Pl, hcs, _, hl, hm, hmm, hy0, hel⟩
  · simp at hcs
    subst hcs
    exact ⟨none, 0, 0, fun _ => 0, fun _ => 0, fun _ => 0, rfl, .inl rfl, by omega, fun i hi => by omega⟩
  · simp at hcs
    subst hcs
    simp only [if_true] at hmm
    subst hmm
    rw [k30] at hel
    have hb : len * 24 ≤ reachBytes := by
      have := hw ((len + (m - len)) * 24) (by
        rw [hy0]
        simp only [DataW.weights, Tryd.underlying22]
        rw [show Tryd.prog.bytesOf 35 = 24 from by kernel_rfl]
        simp)
      have e : len + (m - len) = m := by omega
      rw [e] at this
      omega
    have hall : ∀ i, i < len → ∃ X : In3, ∃ cs', W.cells? 0 (a.add (i * 3)) 3 = some cs' ∧ (cs' = [.int .i64 X.o, .int .i64 X.a, .int .i64 X.b] ∧ (I64 X.a ∧ I64 X.b)) := by
      intro i hi
      obtain ⟨cs', h1, h2⟩ := hel i (by omega)
      have hlen := (World.cells?_some h1).2.1
      obtain ⟨X, h3⟩ := view_instr2 h2 hlen
      exact ⟨X, cs', h1, h3⟩
    have inh : Inhabited In3 := ⟨⟨0, 0, 0⟩⟩
    obtain ⟨N, hN⟩ := choose_lt hall
    refine ⟨some a, len, m, fun i => (N i).o, fun i => (N i).a, fun i => (N i).b, rfl, ?_, by unfold reachBytes at hb; omega, fun i hi => (hN i hi).choose_spec.2.2⟩
    rcases Nat.eq_zero_or_pos len with z | z
    · exact .inl z
    · obtain ⟨b, off, spot⟩ := a
      obtain ⟨cs0, e0, e1, _⟩ := hN 0 z
      have h0 := (World.cells?_some e0).2.2 0 (by decide)
      rw [e1] at h0
      have hspot : spot = none := by simpa [Addr.add] using World.cell?_spot h0
      subst hspot
      have hbl := World.block_lt_of_cell? _ _ h0
      refine .inr ⟨b, off, rfl, by simpa [Addr.add] using hbl, fun i hi => ?_⟩
      obtain ⟨cs', f0, f1, _⟩ := hN i hi
      have hc := (World.cells?_some f0).2.2
      rw [f1] at hc
      refine ⟨?_, ?_, ?_⟩
      · simpa [addr_add] using hc 0 (by decide)
      · simpa [addr_add, Nat.add_assoc] using hc 1 (by decide)
      · simpa [addr_add, Nat.add_assoc] using hc 2 (by decide)
/-- a program that comes in -/
theorem view_prog2 {H : Type} {enc : TypeId × Value → H} {W : World} {base : Nat} {v : Value} {d : DataW H} {pl : List MemPlace}
    (hval : Value.okWide Tryd.prog W .any base 25 v) (h : DataW.Trod enc Tryd.prog W 0 (fun _ => true) true 25 v d pl) (hw : ∀ y ∈ d.weights Tryd.prog 25, y ≤ reachBytes) :
    ∃ (P : Pg) (u : PgV), v = .agg #[.int .i64 P.words, .int .i64 P.locals, .slice u.cp P.n u.cc, .slice u.ep P.m u.ec] ∧ PAt W P u ∧ roomyP P ∧ ∀ i, i < P.n → I64 (P.a i) ∧ I64 (P.b i) := by
  obtain ⟨cs, rfl, hsz⟩ := okWide_struct Tryd.underlying25 hval
  rw [show Tryd.prog.cellsOf 25 = 4 from by kernel_rfl] at hsz
  obtain ⟨fuel, hf⟩ := h
  obtain ⟨l, rfl⟩ : ∃ l : List Value, cs = l.toArray := ⟨cs.toList, by simp⟩
  obtain ⟨c0, c1, c2, c3, rfl⟩ := lst4 (by simpa using hsz)
  obtain ⟨xs, n, _, hx0, _, hxl, hx⟩ := DataW.trod_struct Tryd.underlying25 hf
  obtain ⟨y0, y1, y2, y3, rfl⟩ := lst4 (by simpa using hxl)
  have k3 : Tryd.prog.cellsOf 3 = 1 := by kernel_rfl
  have k22 : Tryd.prog.cellsOf 22 = 1 := by kernel_rfl
  have k23 : Tryd.prog.cellsOf 23 = 1 := by kernel_rfl
  have g0 := hx 0 _ rfl
  have g1 := hx 1 _ rfl
  have g2 := hx 2 _ rfl
  have g3 := hx 3 _ rfl
  simp [Value.cells, k3, k22, k23] at g0 g1 g2 g3
  simp only [Prod.mk.injEq] at hx0
  obtain ⟨x0, s0, _, w0⟩ := DataW.trod_int Tryd.underlying3 g0
  obtain ⟨x1, s1, _, w1⟩ := DataW.trod_int Tryd.underlying3 g1
  obtain ⟨p, n2, c, op, a, b, s2, hi, hn, ha⟩ := view_code2 g2 (fun y hy => hw y (by
    rw [hx0.1]
    simp only [DataW.weights, Tryd.underlying25]
    refine DataW.weights_mem_each (j := 2) (t := 22) (d := y2.1) ?_ rfl y hy
    kernel_rfl))
  obtain ⟨q, m2, e, K, s3, hk, hm⟩ := view_ints g3 (fun y hy => hw y (by
    rw [hx0.1]
    simp only [DataW.weights, Tryd.underlying25]
    refine DataW.weights_mem_each (j := 3) (t := 23) (d := y3.1) ?_ rfl y hy
    kernel_rfl))
  simp at s0 s1
  subst s0 s1 s2 s3
  exact ⟨⟨x0, x1, n2, op, a, b, m2, K⟩, ⟨p, c, q, e⟩, rfl, ⟨hi, hk⟩, ⟨hn, hm⟩, ha⟩
/-- an array of strings that reads as the table holds it, cell for cell -/
theorem cells_of_strs {H : Type} {enc : TypeId × Value → H} {P : Program} {w : World} {base : Nat} {sp : Nat → Bool} {held : Bool} {fuel : Nat} {t e : TypeId} {n : Nat} {cs : List Value} {zs : List Bs} {p : List MemPlace}
    (ht : P.underlying t = some (.array n e)) (he : P.underlying e = some .string) (hce : P.cellsOf e = 1) (hct : P.cellsOf t = n)
    (h : DataW.trod enc P w base sp held fuel t cs = some (.agg (zs.map fun z => .lit (.string z)), p)) : ∀ i, i < zs.length → cs[i]? = some (.string ⟨(zs.getD i []).toArray⟩) := by
  cases fuel with
  | zero => simp [DataW.trod] at h
  | succ fuel =>
    simp only [DataW.trod, ht, hce, hct, Nat.mul_one] at h
    split at h
    · rename_i hl
      obtain ⟨xs, hm, hx⟩ := Option.map_eq_some_iff.1 h
      have hxs : xs.map (·.1) = zs.map fun z => (DataW.lit (.string z) : DataW H) := by
        have := congrArg Prod.fst hx
        simpa using this
      have hxl : xs.length = n := by simpa using Lib.mapM_length hm
      have hzl : zs.length = n := by
        have := congrArg List.length hxs
        simp at this
        omega
      intro i hi
      have hi2 : i < n := by omega
      obtain ⟨b, hb, hf⟩ := Lib.mapM_at hm i i (by simp [hi2])
      obtain ⟨s, hc, rfl, _⟩ := DataW.trod_string he hf
      have h1 : cs[i]? = some (.string s) := by
        have := congrArg (·[0]?) hc
        simpa [List.getElem?_take, List.getElem?_drop] using this
      have h2 : (xs.map (·.1))[i]? = some (DataW.lit (.string s.data.toList) : DataW H) := by simp [hb]
      rw [hxs] at h2
      simp only [List.getElem?_map, Option.map_eq_some_iff, DataW.lit.injEq, Lit.string.injEq] at h2
      obtain ⟨z', hz', hz2⟩ := h2
      rw [h1]
      simp only [List.getD, hz', Option.getD_some, hz2]
    · cases h

def nmData : DataW Unit := .agg (nmT.map fun s => .lit (.string s))
theorem nm_data : (Rows.laid_horizon_vm_names : DataW Unit) = nmData := by kernel_rfl
theorem nm_of_head {W : World} {rest : List (String × DataW Unit)} (h : laidMet Tryd.prog (("horizon/vm.names", Rows.laid_horizon_vm_names) :: rest) W) : Nms W := by
  rw [nm_data] at h
  obtain ⟨ps, ⟨g', t', cs, fuel, p, q, hg', ht', hvar, hd, _, _⟩, _⟩ := h
  have hg : Tryd.prog.globalNamed "horizon/vm.names" = some 0 := by kernel_rfl
  have hty : (Tryd.prog.globals[0]?).map (·.type) = some 37 := by kernel_rfl
  obtain rfl := Option.some.inj (hg.symm.trans hg')
  obtain rfl := Option.some.inj (hty.symm.trans ht')
  intro k hk
  have := World.var?_cell hg hvar k
  rw [this]
  have hc := cells_of_strs Tryd.underlying37 Tryd.underlying9 (by kernel_rfl) (by kernel_rfl) hd k (by show k < 42; exact hk)
  simpa using hc
theorem tt_data : (Rows.laid_internal_strconv_uint64pow10 : DataW Unit) = Lib.tabData .u64 Lib.pow10Tab := by kernel_rfl
theorem ground_of {W : World} (h : laidMetH Tryd.prog Rows.vmListsRow.laid W) (hs : W.ShapedOpen Tryd.prog) : Lib.TabIs Tryd.prog W "internal/strconv.uint64pow10" .u64 Lib.pow10Tab ∧ Nms W := by
  have h1 : laidMet Tryd.prog [("math/bits.deBruijn32tab", Rows.laid_math_bits_deBruijn32tab), ("math/bits.deBruijn64tab", Rows.laid_math_bits_deBruijn64tab), ("internal/strconv.uint64pow10", Rows.laid_internal_strconv_uint64pow10), ("horizon/vm.names", Rows.laid_horizon_vm_names)] W := h
  have h2 := h1.tail.tail
  refine ⟨?_, nm_of_head h2.tail⟩
  rw [tt_data] at h2
  exact Lib.tabIs_of_head (rest := _) (by kernel_rfl : Tryd.prog.globalNamed "internal/strconv.uint64pow10" = some 1) (by kernel_rfl : (Tryd.prog.globals[1]?).map (·.type) = some 55) Tryd.underlying55 Tryd.underlying47 (by kernel_rfl) (by kernel_rfl) h2
structure PT where
  P : Pg
  u : PgV
def PT.v (r : PT) : Value := .agg #[.int .i64 r.P.words, .int .i64 r.P.locals, .slice r.u.cp r.P.n r.u.cc, .slice r.u.ep r.P.m r.u.ec]
theorem view_PT {H : Type} {enc : TypeId × Value → H} {W : World} {base : Nat} {v : Value} {d : DataW H} {pl : List MemPlace}
    (hval : Value.okWide Tryd.prog W .any base 25 v) (h : DataW.Trod enc Tryd.prog W 0 (fun _ => true) true 25 v d pl) (hw : ∀ y ∈ d.weights Tryd.prog 25, y ≤ reachBytes) :
    ∃ (r : PT) (_ : Unit) (_ : Unit) (_ : Unit), v = r.v ∧ PAt W r.P r.u ∧ (roomyP r.P ∧ abP r.P) := by
  obtain ⟨P, u, rfl, h1, h2, h3⟩ := view_prog2 hval h hw
  exact ⟨⟨P, u⟩, (), (), (), rfl, h1, h2, h3⟩
theorem lists_PT (r : PT) (_ _ _ : Unit) (hz : roomyP r.P ∧ abP r.P) (W : World) (ht : Lib.TabIs Tryd.prog W "internal/strconv.uint64pow10" .u64 Lib.pow10Tab ∧ Nms W) (hy : PAt W r.P r.u) :
    Calls Tryd.prog 3 #[r.v] W fun e w' => e = .returned (.bool true) ∧ Below W.heap.size W w' :=
  lists_law r.P r.u hz.2 hz.1 W hy ht.1 ht.2
end Go.Proofs.YthbngffonbhakaaDoor
