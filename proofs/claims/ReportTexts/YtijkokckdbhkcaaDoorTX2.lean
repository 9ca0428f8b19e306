import Derived.Test.YtijkokckdbhkcaaDoorTX1
import Derived.Lib.OwnKind
namespace Go.Proofs.YtijkokckdbhkcaaDoor
open Go.ChangeShapes Go.WideShapes Go.ChangeAt Go.RowKit Go.Sort
set_option linter.unusedVariables false
set_option linter.unusedSimpArgs false

theorem hid {p : Prop} (h : p) : Hid p := h
def BR (B : Nat) (w : World) (v : Value) (l : List UInt8) : Prop := w.ownsRow B 5 1 v l.length (Lib.byteCells l)
structure Fr (B : Nat) (w w' : World) : Prop where
  bel : Below B w w'
  oth : Lib.OthersKept 5 none w w'
theorem Fr.refl (B : Nat) (w : World) : Fr B w w := ⟨Below.refl _ _, Lib.OthersKept.refl _ _ _⟩
theorem Fr.trans {B : Nat} {a b c : World} (h : Fr B a b) (k : Fr B b c) : Fr B a c := ⟨h.bel.trans k.bel, h.oth.trans k.oth⟩
theorem Fr.size {B : Nat} {a b : World} (h : Fr B a b) : a.heap.size ≤ b.heap.size := h.bel.size
theorem Fr.alloc {B : Nat} {w : World} (h : B ≤ w.heap.size) (o : Obj) : Fr B w (w.alloc o) := ⟨(Below.refl _ _).alloc h _, (Lib.OthersKept.refl _ _ _).alloc _⟩
theorem Fr.below {B : Nat} {w w' : World} (h : B ≤ w.heap.size) (hb : Below w.heap.size w w') : Fr B w w' := ⟨hb.mono h, (Lib.OthersKept.refl _ _ _).below hb⟩
theorem Fr.drew {B : Nat} {w w' : World} (h : Fr B w w') : Fr B w w'.drew := ⟨h.bel.drew, h.oth.drew⟩
theorem Fr.block {B : Nat} {W W' : World} {g : Nat} {cs : Array Value} {T : TypeId} {fz : Nat × Nat} (h : Fr B W W') (hg : W.heap[g]? = some (.cells cs T fz)) (hT : T ≠ 5) : W'.heap[g]? = some (.cells cs T fz) :=
  h.oth g _ hg (by simp) (fun c f e => by injection e with _ e2 _; exact hT e2)
theorem br_nil (B : Nat) (w : World) : BR B w (.slice none 0 0) [] := World.ownsRow_nil _ _ _ _
theorem BR.alloc {B : Nat} {w : World} {v : Value} {l : List UInt8} (h : BR B w v l) (o : Obj) : BR B (w.alloc o) v l := World.ownsRow.alloc h o
theorem bcells_app (a b : List UInt8) : Lib.byteCells (a ++ b) = Lib.byteCells a ++ Lib.byteCells b := by simp [Lib.byteCells]
theorem BR.below {B : Nat} {w w' : World} {v : Value} {l : List UInt8} (h : BR B w v l) (hb : Below w.heap.size w w') : BR B w' v l := by
  refine ⟨h.1, ?_⟩
  rcases h.2 with h2 | ⟨g, cap, cur, h1, h2, h3, h4⟩
  · exact .inl h2
  · have hlt : g < w.heap.size := (Array.getElem?_eq_some_iff.1 h3).1
    exact .inr ⟨g, cap, cur, h1, h2, (hb.block g hlt).trans h3, h4⟩
theorem info5x : (Tryd.prog.info? 5).map (fun i => (i.zero, i.size, i.bytes)) = some (some (.int .u8 0), 1, 1) := by kernel_rfl

theorem app_str {ops : Array Oper} {rest : List Oper} {o : Oper} {a : Act} {w : World} {Q : Exit → Act → World → Prop} (hgd : o.guard = none) (sl x : Operand)
    (ho : o.op = .call { callee := .builtin .append, args := #[sl, x], argTypes := #[33, 9] }) (B : Nat) (v : Value) (l : List UInt8) (hs : a.eval sl = v) (hb : BR B w v l)
    (s : List UInt8) (hx : a.eval x = .string ⟨s.toArray⟩) (hlim : l.length + s.length ≤ 140737488355328) (hbase : B ≤ w.heap.size)
    (h : ∀ v' w', BR B w' v' (l ++ s) → Fr B w w' → wpList Tryd.prog ops Q rest (a.put o.dst v') w') : wpList Tryd.prog ops Q (o :: rest) a w := by
  obtain ⟨i5, hi5, ha5, hb5, hc5⟩ := info_parts info5x
  have hz : (⟨s.toArray⟩ : ByteArray).size = s.length := bsz s
  refine Lib.wpList_append_own_string w hgd sl x _ _ ho B 5 i5 Tryd.underlying33 Tryd.underlying9 hi5 ha5 hb5 hc5 v _ _ hs hb _ hx (by unfold maxLen; omega) (by omega) hbase ?_
  intro v' w' h1 h2 _
  refine h v' w' ?_ ⟨(Below.refl _ _).grown h2 hbase (fun k hk => (World.ownsRow.lt hb k hk).1), (Lib.OthersKept.refl _ _ _).grown h2 (Lib.ownsRow_kind hb)⟩
  have e1 : Lib.strCells ⟨s.toArray⟩ = Lib.byteCells s := by simp [Lib.strCells, Lib.byteCells]
  unfold BR
  rw [bcells_app, List.length_append, ← e1, ← hz]
  exact h1

theorem app_one {ops : Array Oper} {rest : List Oper} {o : Oper} {a : Act} {w : World} {Q : Exit → Act → World → Prop} (hgd : o.guard = none) (sl x : Operand)
    (ho : o.op = .call { callee := .builtin .append, args := #[sl, x], argTypes := #[33, 33] }) (B : Nat) (v : Value) (l : List UInt8) (hs : a.eval sl = v) (hb : BR B w v l)
    (c : UInt8) (k : Int) (hk : (c.toNat : Int) = k) (hx : a.eval x = .slice (some ⟨w.heap.size, 0, none⟩) 1 1) (hlim : l.length + 1 ≤ 140737488355328) (hbase : B ≤ w.heap.size)
    (h : ∀ v' w', BR B w' v' (l ++ [c]) → Fr B w w' → wpList Tryd.prog ops Q rest (a.put o.dst v') w') : wpList Tryd.prog ops Q (o :: rest) a (w.alloc (.cells #[.int .u8 k] 5)) := by
  obtain ⟨i5, hi5, ha5, hb5, hc5⟩ := info_parts info5x
  refine wpList_append_lies _ hgd sl x 33 ho B 5 i5 (.int .u8 0) 1 1 Tryd.underlying33 hi5 ha5 hb5 hc5 rfl (by decide) v _ _ hs (hb.alloc _) ⟨w.heap.size, 0, none⟩ 1 1 [.int .u8 k] hx rfl (news_one _ _ _ _ rfl) (by intro u hu; simp at hu; subst hu; rfl) (by decide) (by unfold maxLen; omega) (by omega) (by simp; omega) (w.heap.size + 1) (by simp) ?_
  intro g cap w' h1 h2 _ _
  refine h _ w' ?_ ((Fr.alloc hbase _).trans ⟨(Below.refl _ _).grown h2 (by simp; omega) (fun k hk => (World.ownsRow.lt hb k hk).1), (Lib.OthersKept.refl _ _ _).grown h2 (Lib.ownsRow_kind (hb.alloc (.cells #[.int .u8 k] 5)))⟩)
  unfold BR
  rw [bcells_app, List.length_append, show Lib.byteCells [c] = [.int .u8 k] by simp [Lib.byteCells, hk]]
  exact h1

abbrev Tb (B : Nat) (w : World) : Prop := Lib.TabBelow Tryd.prog B w "internal/strconv.uint64pow10" .u64 Lib.pow10Tab
set_option maxRecDepth 100000 in
theorem apU_any (B u : Nat) (hu : u < 18446744073709551616) (v : Value) (l : List UInt8) (w : World) (hb : BR B w v l) (hB : B ≤ w.heap.size) (hlim : l.length + 20 ≤ 140737488355328) (htab : Tb B w) :
    Calls Tryd.prog 20 #[v, .int .u64 u, .int .i64 10] w fun e w' => ∃ v', e = .returned v' ∧ BR B w' v' (l ++ Lib.decDigits u) ∧ Fr B w w' := by
  have hin : Calls Tryd.prog 29 #[v, .int .u64 u, .int .i64 10] w fun e w' => ∃ v', e = .returned v' ∧ w'.ownsRow B 5 1 v' (l.length + (Lib.decDigits u).length) (Lib.byteCells l ++ Lib.byteCells (Lib.decDigits u)) ∧ Below B w w' ∧ Lib.OthersKept 5 none w w' := by
    by_cases h : u < 100
    · exact Any.internal_strconv_AppendUint_10_small laysAU B _ u h v _ w hb hB hlim
    · exact Any.internal_strconv_AppendUint_10_big laysAU B _ u (by omega) hu v _ w hb hB hlim htab.here
  have HI : Hid (Calls Tryd.prog 29 #[v, .int .u64 u, .int .i64 10] w fun e w' => ∃ v', e = .returned v' ∧ w'.ownsRow B 5 1 v' (l.length + (Lib.decDigits u).length) (Lib.byteCells l ++ Lib.byteCells (Lib.decDigits u)) ∧ Below B w w' ∧ Lib.OthersKept 5 none w w') := hin
  clear hin htab hb
  go_enter Tryd.func20, Tryd.ntmps20
  go_wp2_with fail
  refine HI.out.mono ?_
  rintro e w' ⟨v', rfl, h1, h2, h3⟩
  go_wp2
  go_ret
  refine ⟨v', rfl, ?_, h2, h3⟩
  unfold BR
  rw [bcells_app, List.length_append]
  exact h1
theorem apI_any (B : Nat) (i : Int) (h0 : -9223372036854775808 ≤ i ∧ i < 9223372036854775808) (v : Value) (l : List UInt8) (w : World) (hb : BR B w v l) (hB : B ≤ w.heap.size) (hlim : l.length + 21 ≤ 140737488355328) (htab : Tb B w) :
    Calls Tryd.prog 19 #[v, .int .i64 i, .int .i64 10] w fun e w' => ∃ v', e = .returned v' ∧ BR B w' v' (l ++ Lib.itoa i) ∧ Fr B w w' := by
  refine (appI_any B l.length i h0.1 (by omega) v _ w hb hB hlim htab).mono ?_
  rintro e w' ⟨v', rfl, h1, h2, h3⟩
  refine ⟨v', rfl, ?_, h2, h3⟩
  unfold BR
  rw [bcells_app, List.length_append]
  exact h1
theorem apN_any (B : Nat) (s : List UInt8) (i : Int) (h0 : -9223372036854775808 ≤ i ∧ i < 9223372036854775808) (v : Value) (l : List UInt8) (w : World) (hb : BR B w v l) (hB : B ≤ w.heap.size) (hlim : l.length + s.length + 21 ≤ 140737488355328) (htab : Tb B w) :
    Calls Tryd.prog 8 #[v, .string ⟨s.toArray⟩, .int .i64 i] w fun e w' => ∃ v', e = .returned v' ∧ BR B w' v' (l ++ (s ++ Lib.itoa i)) ∧ Fr B w w' := by
  have HT : Hid (Tb B w) := htab
  have HB : Hid (BR B w v l) := hb
  clear htab hb
  go_enter Tryd.func8, Tryd.ntmps8
  go_wp2_with (at_builtin; refine app_str rfl _ _ rfl B v l rfl HB.out s rfl (by omega) hB ?_; intro v1 w1 b1 f1)
  have HX := apI_any B i h0 v1 _ w1 b1 (Nat.le_trans hB f1.size) (by simp; omega) (HT.out.on f1.bel)
  clear b1
  go_wp2_with (go_at_call 19; (with_reducible refine HX.mono ?_); rintro e w2 ⟨v2, rfl, b2, f2⟩)
  go_ret
  rw [List.append_assoc] at b2
  exact ⟨v2, rfl, b2, f1.trans f2⟩
end Go.Proofs.YtijkokckdbhkcaaDoor
