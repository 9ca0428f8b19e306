import Derived.Test.YthbngffonbhakaaDoorRows
import Derived.Test.YthbngffonbhakaaDoorVLZ
import Derived.Test.YthbngffonbhakaaDoorVL1
import Derived.BigQuiet
import Derived.Deep.RegionLaw
import Derived.Deep.RegionHeld3
import Derived.Deep.Cut
import Derived.Deep.DeepCutAuto
import Derived.Deep.CutBlock
import Derived.Deep.CutRange
import Derived.Handy
import Derived.WalkKit
import Derived.ProofKit
import Derived.OpenShut
import Derived.Below
import Derived.Deep.AppendLies
import Derived.Laws.IdiomStrings
import Derived.Lib.ItoaLen
import Derived.WalkLawsBesides
import Derived.Lib.AppendStr
import Derived.Lib.OwnKind
namespace Go.Proofs.YthbngffonbhakaaDoor
open Go.ChangeShapes Go.WideShapes Go.ChangeAt Go.RowKit Go.Sort
set_option linter.unusedVariables false
set_option linter.unusedSimpArgs false

theorem dec_len (u : Nat) (h : u < 18446744073709551616) : (Lib.decDigits u).length ≤ 20 := by
  rw [Lib.decDigits_length]
  exact Lib.nDigits_le20 u (by omega)
theorem itoa_len (n : Int) (h0 : -9223372036854775808 ≤ n) (h1 : n ≤ 9223372036854775807) : (Lib.itoa n).length ≤ 21 := Lib.itoa_length_le n h0 h1
theorem appI_any (B n : Nat) (i : Int) (h0 : -9223372036854775808 ≤ i) (h1 : i ≤ 9223372036854775807) (sv : Value) (xs : List Value) (w : World) (hown : w.ownsRow B 5 1 sv n xs) (hBw : B ≤ w.heap.size) (hlim : n + 21 ≤ 140737488355328)
    (htab : Lib.TabBelow Tryd.prog B w "internal/strconv.uint64pow10" .u64 Lib.pow10Tab) :
    Calls Tryd.prog 21 #[sv, .int .i64 i, .int .i64 10] w fun e w' => ∃ v', e = .returned v' ∧ w'.ownsRow B 5 1 v' (n + (Lib.itoa i).length) (xs ++ Lib.byteCells (Lib.itoa i)) ∧ Below B w w' ∧ Lib.OthersKept 5 none w w' :=
  Any.strconv_AppendInt_10 laysAI B n i h0 h1 sv xs w hown hBw hlim htab
theorem dec_step {u : Nat} (h : ¬ u < 10) : Lib.decDigits u = Lib.decDigits (u / 10) ++ [UInt8.ofNat (48 + u % 10)] := by rw [Lib.decDigits, dif_neg h]
theorem str_app (a b : List UInt8) : (⟨a.toArray⟩ : ByteArray) ++ (⟨b.toArray⟩ : ByteArray) = ⟨(a ++ b).toArray⟩ := by
  apply ByteArray.ext
  simp [ByteArray.data_append]
set_option maxHeartbeats 1000000 in
theorem digits_any (u0 : Nat) (hu : u0 < 18446744073709551616) (w : World) :
    Calls Tryd.prog 23 #[.int .u64 u0] w fun e w' => e = .returned (.string ⟨(Lib.decDigits u0).toArray⟩) ∧ Below w.heap.size w w' := by
  have hl := dec_len u0 hu
  go_enter Tryd.func23, Tryd.ntmps23
  go_wp2
  go_loopw [0, 3] (fun vn vs wr => ∃ (u : Nat) (s : List UInt8), vn = .int .u64 u ∧ vs = .string ⟨s.toArray⟩ ∧ u ≤ u0 ∧ Lib.decDigits u0 = Lib.decDigits u ++ s ∧ Below w.heap.size w wr) (fun vn _ _ => (intOf vn).toNat)
  case atStart => exact ⟨u0, [], rfl, rfl, Nat.le_refl _, by simp, Below.refl _ _⟩
  case round =>
    obtain ⟨u, s, rfl, rfl, hle, hdec, hb⟩ := hrel
    have hsl : s.length ≤ 20 := by
      have := congrArg List.length hdec
      simp at this
      omega
    have HD : Hid (Lib.decDigits u0 = Lib.decDigits u ++ s) := hdec
    clear hdec
    have hsz := hb.size
    obtain ⟨c, hc⟩ : ∃ c, c = UInt8.ofNat (48 + u % 10) := ⟨_, rfl⟩
    have e1 : ((c.toNat : Nat) : Int) = 48 + (u : Int) % 10 := by
      rw [hc, UInt8.toNat_ofNat']
      omega
    have HC : Hid (c = UInt8.ofNat (48 + u % 10)) := hc
    clear hc
    have hconv : (convert 31 9 (.slice (some ⟨wr.heap.size, 0, none⟩) 1 1)).run Tryd.prog (wr.alloc (.cells #[.int .u8 (48 + (u : Int) % 10)] 5)) = .ok (.string ⟨#[c]⟩) (wr.alloc (.cells #[.int .u8 (48 + (u : Int) % 10)] 5)) :=
      run_convert_bytes_back (P := Tryd.prog) (wr.alloc (.cells #[.int .u8 (48 + (u : Int) % 10)] 5)) 31 9 5 ⟨wr.heap.size, 0, none⟩ 1 [c] Tryd.underlying31 Tryd.underlying5 Tryd.underlying9 (by
      intro j hj
      have hj0 : j = 0 := by simpa using hj
      subst hj0
      simp [Addr.add, e1])
    have hsum : (⟨#[c]⟩ : ByteArray).size + (⟨s.toArray⟩ : ByteArray).size ≤ 9223372036854775807 := by simp [ByteArray.size]; omega
    have hadd : ∀ W, (Op.stringOp .add ⟨#[c]⟩ ⟨s.toArray⟩).run Tryd.prog W = .ok (.string (⟨#[c]⟩ ++ ⟨s.toArray⟩)) W := fun W => run_string_add_sum (P := Tryd.prog) (w := W) ⟨#[c]⟩ ⟨s.toArray⟩ hsum
    clear e1 hsum
    by_cases h10 : u < 10
    · have hz : ((u : Int) / 10 == 0) = true := by rw [beq_iff_eq]; omega
      go_wp2_with fail
      go_ret
      rw [HD.out, Lib.decDigits_one h10]
      refine ⟨?_, hb.alloc hsz _⟩
      have e2 : UInt8.ofNat (48 + u) = c := by rw [HC.out, show u % 10 = u by omega]
      rw [e2]
      exact congrArg (fun x => Ending.returned (Value.string x)) (str_app [c] s)
    · have hz : ((u : Int) / 10 == 0) = false := by rw [beq_eq_false_iff_ne]; omega
      go_wp2_with fail
      go_roundw
      case rel => exact ⟨u / 10, c :: s, by go_num, congrArg Value.string (str_app [c] s), by omega, by rw [HD.out, dec_step h10, HC.out]; simp, hb.alloc hsz _⟩
      case measure => simp [intOf]; omega
set_option maxHeartbeats 1000000 in
theorem refSigned_any (i : Int) (h0 : -9223372036854775808 ≤ i) (h1 : i ≤ 9223372036854775807) (w : World) :
    Calls Tryd.prog 14 #[.int .i64 i] w fun e w' => e = .returned (.string ⟨(Lib.itoa i).toArray⟩) ∧ Below w.heap.size w w' := by
  by_cases hn : 0 ≤ i
  · obtain ⟨u, rfl⟩ := Int.eq_ofNat_of_zero_le hn
    rw [Lib.itoa_nonneg]
    go_enter Tryd.func14, Tryd.ntmps14
    go_wp2_with fail
    refine (digits_any u (by omega) _).mono ?_
    rintro e w' ⟨rfl, hb⟩
    go_wp2_with fail
    go_ret
    exact ⟨rfl, hb⟩
  · obtain ⟨u, hu, rfl⟩ : ∃ u : Nat, 1 ≤ u ∧ i = -(u : Int) := ⟨i.natAbs, by omega, by omega⟩
    rw [Lib.itoa_neg u hu]
    have hl := dec_len u (by omega)
    have hsum : (⟨#[45]⟩ : ByteArray).size + (⟨(Lib.decDigits u).toArray⟩ : ByteArray).size ≤ 9223372036854775807 := by simp [ByteArray.size]; omega
    have hadd : ∀ W, (Op.stringOp .add ⟨#[45]⟩ ⟨(Lib.decDigits u).toArray⟩).run Tryd.prog W = .ok (.string (⟨#[45]⟩ ++ ⟨(Lib.decDigits u).toArray⟩)) W := fun W => run_string_add_sum (P := Tryd.prog) (w := W) _ _ hsum
    have hx : -(-(u : Int) + 1) + 1 = (u : Int) := by omega
    clear hsum
    go_enter Tryd.func14, Tryd.ntmps14
    go_wp2_with fail
    refine (digits_any u (by omega) _).mono ?_
    rintro e w' ⟨rfl, hb⟩
    go_wp2_with fail
    go_ret
    exact ⟨congrArg (fun x => Ending.returned (Value.string x)) (str_app [45] (Lib.decDigits u)), hb⟩
theorem news_one (W : World) (x : Value) (T : TypeId) (A : Nat) (hA : A = W.heap.size) : ∀ j u, [x][j]? = some u → (W.alloc (.cells #[x] T)).cell? ((⟨A, 0, none⟩ : Addr).add j) = some u := by
  subst hA
  exact World.news_of_block (cs := #[x]) (heap_alloc_new W _)
theorem bsz (l : List UInt8) : (⟨l.toArray⟩ : ByteArray).size = l.length := by simp [ByteArray.size]
def bst (l : List UInt8) : Value := .string ⟨l.toArray⟩
theorem hid {p : Prop} (h : p) : Hid p := h
def BR (B : Nat) (w : World) (v : Value) (l : List UInt8) : Prop := w.ownsRow B 5 1 v l.length (Lib.byteCells l)
structure Fr (B : Nat) (w w' : World) : Prop where
  bel : Below B w w'
  oth : Lib.OthersKept 5 none w w'
theorem Fr.refl (B : Nat) (w : World) : Fr B w w := ⟨Below.refl _ _, Lib.OthersKept.refl _ _ _⟩
theorem Fr.trans {B : Nat} {a b c : World} (h : Fr B a b) (k : Fr B b c) : Fr B a c := ⟨h.bel.trans k.bel, h.oth.trans k.oth⟩
theorem Fr.size {B : Nat} {a b : World} (h : Fr B a b) : a.heap.size ≤ b.heap.size := h.bel.size
theorem Fr.alloc {B : Nat} {w : World} (h : B ≤ w.heap.size) (o : Obj) : Fr B w (w.alloc o) := ⟨(Below.refl _ _).alloc h _, (Lib.OthersKept.refl _ _ _).alloc _⟩
theorem Fr.below {B : Nat} {w w' : World} (h : B ≤ w.heap.size) (hb : Below w.heap.size w w') : Fr B w w' := ⟨hb.mono h, (Lib.OthersKept.refl _ _ _).below hb⟩
theorem Fr.drew {B : Nat} {w w' : World} (h : Fr B w w') : Fr B w w'.drew := ⟨h.bel.drew, h.oth.drew⟩
theorem Fr.block {B : Nat} {W W' : World} {g : Nat} {cs : Array Value} {T : TypeId} {fz : Nat × Nat} (h : Fr B W W') (hg : W.heap[g]? = some (.cells cs T fz)) (hT : T ≠ 5) : W'.heap[g]? = some (.cells cs T fz) :=
  h.oth g _ hg (by simp) (fun c f e => by injection e with _ e2 _; exact hT e2)
theorem br_nil (B : Nat) (w : World) : BR B w (.slice none 0 0) [] := World.ownsRow_nil _ _ _ _
theorem BR.alloc {B : Nat} {w : World} {v : Value} {l : List UInt8} (h : BR B w v l) (o : Obj) : BR B (w.alloc o) v l := World.ownsRow.alloc h o
theorem bcells_app (a b : List UInt8) : Lib.byteCells (a ++ b) = Lib.byteCells a ++ Lib.byteCells b := by simp [Lib.byteCells]
theorem BR.below {B : Nat} {w w' : World} {v : Value} {l : List UInt8} (h : BR B w v l) (hb : Below w.heap.size w w') : BR B w' v l := by
  refine ⟨h.1, ?_⟩
  rcases h.2 with h2 | ⟨g, cap, cur, h1, h2, h3, h4⟩
  · exact .inl h2
  · have hlt : g < w.heap.size := (Array.getElem?_eq_some_iff.1 h3).1
    exact .inr ⟨g, cap, cur, h1, h2, (hb.block g hlt).trans h3, h4⟩
theorem info5x : (Tryd.prog.info? 5).map (fun i => (i.zero, i.size, i.bytes)) = some (some (.int .u8 0), 1, 1) := by kernel_rfl
theorem app_str {ops : Array Oper} {rest : List Oper} {o : Oper} {a : Act} {w : World} {Q : Exit → Act → World → Prop} (hgd : o.guard = none) (sl x : Operand)
    (ho : o.op = .call { callee := .builtin .append, args := #[sl, x], argTypes := #[31, 9] }) (B : Nat) (v : Value) (l : List UInt8) (hs : a.eval sl = v) (hb : BR B w v l)
    (s : List UInt8) (hx : a.eval x = .string ⟨s.toArray⟩) (hlim : l.length + s.length ≤ 140737488355328) (hbase : B ≤ w.heap.size)
    (h : ∀ v' w', BR B w' v' (l ++ s) → Fr B w w' → wpList Tryd.prog ops Q rest (a.put o.dst v') w') : wpList Tryd.prog ops Q (o :: rest) a w := by
  obtain ⟨i5, hi5, ha5, hb5, hc5⟩ := info_parts info5x
  have hz : (⟨s.toArray⟩ : ByteArray).size = s.length := bsz s
  refine Lib.wpList_append_own_string w hgd sl x _ _ ho B 5 i5 Tryd.underlying31 Tryd.underlying9 hi5 ha5 hb5 hc5 v _ _ hs hb _ hx (by unfold maxLen; omega) (by omega) hbase ?_
  intro v' w' h1 h2 _
  refine h v' w' ?_ ⟨(Below.refl _ _).grown h2 hbase (fun k hk => (World.ownsRow.lt hb k hk).1), (Lib.OthersKept.refl _ _ _).grown h2 (Lib.ownsRow_kind hb)⟩
  have e1 : Lib.strCells ⟨s.toArray⟩ = Lib.byteCells s := by simp [Lib.strCells, Lib.byteCells]
  unfold BR
  rw [bcells_app, List.length_append, ← e1, ← hz]
  exact h1
theorem app_one {ops : Array Oper} {rest : List Oper} {o : Oper} {a : Act} {w : World} {Q : Exit → Act → World → Prop} (hgd : o.guard = none) (sl x : Operand)
    (ho : o.op = .call { callee := .builtin .append, args := #[sl, x], argTypes := #[31, 31] }) (B : Nat) (v : Value) (l : List UInt8) (hs : a.eval sl = v) (hb : BR B w v l)
    (c : UInt8) (k : Int) (hk : (c.toNat : Int) = k) (hx : a.eval x = .slice (some ⟨w.heap.size, 0, none⟩) 1 1) (hlim : l.length + 1 ≤ 140737488355328) (hbase : B ≤ w.heap.size)
    (h : ∀ v' w', BR B w' v' (l ++ [c]) → Fr B w w' → wpList Tryd.prog ops Q rest (a.put o.dst v') w') : wpList Tryd.prog ops Q (o :: rest) a (w.alloc (.cells #[.int .u8 k] 5)) := by
  obtain ⟨i5, hi5, ha5, hb5, hc5⟩ := info_parts info5x
  refine wpList_append_lies _ hgd sl x 31 ho B 5 i5 (.int .u8 0) 1 1 Tryd.underlying31 hi5 ha5 hb5 hc5 rfl (by decide) v _ _ hs (hb.alloc _) ⟨w.heap.size, 0, none⟩ 1 1 [.int .u8 k] hx rfl (news_one _ _ _ _ rfl) (by intro u hu; simp at hu; subst hu; rfl) (by decide) (by unfold maxLen; omega) (by omega) (by simp; omega) (w.heap.size + 1) (by simp) ?_
  intro g cap w' h1 h2 _ _
  refine h _ w' ?_ ((Fr.alloc hbase _).trans ⟨(Below.refl _ _).grown h2 (by simp; omega) (fun k hk => (World.ownsRow.lt hb k hk).1), (Lib.OthersKept.refl _ _ _).grown h2 (Lib.ownsRow_kind (hb.alloc (.cells #[.int .u8 k] 5)))⟩)
  unfold BR
  rw [bcells_app, List.length_append, show Lib.byteCells [c] = [.int .u8 k] by simp [Lib.byteCells, hk]]
  exact h1
abbrev Tb (B : Nat) (w : World) : Prop := Lib.TabBelow Tryd.prog B w "internal/strconv.uint64pow10" .u64 Lib.pow10Tab
theorem apI_any (B : Nat) (i : Int) (h0 : -9223372036854775808 ≤ i ∧ i < 9223372036854775808) (v : Value) (l : List UInt8) (w : World) (hb : BR B w v l) (hB : B ≤ w.heap.size) (hlim : l.length + 21 ≤ 140737488355328) (htab : Tb B w) :
    Calls Tryd.prog 21 #[v, .int .i64 i, .int .i64 10] w fun e w' => ∃ v', e = .returned v' ∧ BR B w' v' (l ++ Lib.itoa i) ∧ Fr B w w' := by
  refine (appI_any B l.length i h0.1 (by omega) v _ w hb hB hlim htab).mono ?_
  rintro e w' ⟨v', rfl, h1, h2, h3⟩
  refine ⟨v', rfl, ?_, h2, h3⟩
  unfold BR
  rw [bcells_app, List.length_append]
  exact h1
theorem br_conv {B : Nat} {W : World} {v : Value} {l : List UInt8} (h : BR B W v l) (hl : 0 < l.length) : ∃ g cap, v = .slice (some ⟨g, 0, none⟩) l.length cap ∧ (convert 31 9 (.slice (some ⟨g, 0, none⟩) l.length cap)).run Tryd.prog W = .ok (.string ⟨l.toArray⟩) W := by
  obtain ⟨g, cap, hv, hg1, hg2⟩ := World.ownsRow.form h hl
  refine ⟨g, cap, hv, ?_⟩
  have ho : W.ownsRow B 5 1 (.slice (some ⟨g, 0, none⟩) l.length cap) l.length (Lib.byteCells l) := by rw [← hv]; exact h
  exact run_convert_bytes_back (P := Tryd.prog) W 31 9 5 ⟨g, 0, none⟩ cap l Tryd.underlying31 Tryd.underlying5 Tryd.underlying9 (by
      intro j hj
      have e : (⟨g, 0, none⟩ : Addr).add j = ⟨g, j, none⟩ := by
        unfold Addr.add
        by_cases hi : j = 0 <;> simp [hi]
      rw [e, ho.cellAt j (by omega)]
      simp [Lib.byteCells, hj])
end Go.Proofs.YthbngffonbhakaaDoor
