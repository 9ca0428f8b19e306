import Derived.Test.YtmekcccmnkgodaaGreatDoorFLSame
import Derived.Test.YtmekcccmnkgodaaGreatDoorFA3
import Derived.Maps.AppendAt
namespace Go.Proofs.YtmekcccmnkgodaaGreatDoor
open Go.ChangeShapes Go.WideShapes Go.ChangeAt Go.RowKit
set_option linter.unusedVariables false
set_option linter.unusedSimpArgs false

theorem own_of_rowT {W : World} {base : Nat} {t : TypeId} {s m : Nat} {v : Value} {xs : List Value} (h : W.ownsRow base t s v m xs) : Own W base t s v m (fun j => xs.getD j undef) := by
  unfold Own
  rw [← h.1, ← cellsF_of]
  exact h
/-- tokens as cells -/
def TF (l : List Tk) : Nat → Value := fun j => (tksCells l).getD j undef
theorem tks_length (l : List Tk) : (tksCells l).length = l.length * 5 := by
  induction l with
  | nil => rfl
  | cons t l ih =>
    have : tksCells (t :: l) = tkCells t ++ tksCells l := rfl
    rw [this, List.length_append, ih]
    simp [tkCells]
    omega
theorem tf_row (l : List Tk) : cellsF (TF l) (l.length * 5) = tksCells l := by
  rw [← tks_length l]
  exact (cellsF_of (tksCells l)).symm
theorem own_tks {W : World} {base : Nat} {v : Value} {l : List Tk} : Own W base 40 5 v l.length (TF l) ↔ W.ownsRow base 40 5 v l.length (tksCells l) := by
  unfold Own
  rw [tf_row]
/-- the cells are tokens' -/
def TkSh (n : Nat) (F : Nat → Value) : Prop := ∀ i, i < n → ∃ (k : Int) (s : ByteArray) (q l c : Int), F (i * 5) = .int .i64 k ∧ F (i * 5 + 1) = .string s ∧ F (i * 5 + 2) = .int .u64 q ∧ F (i * 5 + 3) = .int .i64 l ∧ F (i * 5 + 4) = .int .i64 c
theorem TkSh.one {n : Nat} {F : Nat → Value} (h : TkSh n F) {j : Nat} (hj : j < n * 5) : (F j).oneCell' = true := by
  obtain ⟨k, s, q, l, c, h0, h1, h2, h3, h4⟩ := h (j / 5) (by omega)
  have e : j = j / 5 * 5 ∨ j = j / 5 * 5 + 1 ∨ j = j / 5 * 5 + 2 ∨ j = j / 5 * 5 + 3 ∨ j = j / 5 * 5 + 4 := by omega
  rcases e with e | e | e | e | e <;> rw [e]
  · rw [h0]; rfl
  · rw [h1]; rfl
  · rw [h2]; rfl
  · rw [h3]; rfl
  · rw [h4]; rfl
theorem tks_at (l : List Tk) : ∀ (i r : Nat) (t : Tk), l[i]? = some t → r < 5 → TF l (i * 5 + r) = (tkCells t).getD r undef := by
  induction l with
  | nil => intro i r t h; simp at h
  | cons x l ih =>
    intro i r t h hr
    have e : tksCells (x :: l) = tkCells x ++ tksCells l := rfl
    have el : (tkCells x).length = 5 := rfl
    cases i with
    | zero =>
      simp at h
      subst h
      unfold TF
      rw [e, Nat.zero_mul, Nat.zero_add, List.getD_eq_getElem?_getD, List.getElem?_append_left (by omega), ← List.getD_eq_getElem?_getD]
    | succ i =>
      have := ih i r t (by simpa using h) hr
      unfold TF at this ⊢
      rw [e, List.getD_eq_getElem?_getD, List.getElem?_append_right (by omega), el, show (i + 1) * 5 + r - 5 = i * 5 + r by omega, ← List.getD_eq_getElem?_getD]
      exact this
theorem tf_sh (l : List Tk) : TkSh l.length (TF l) := fun i hi => by
  have h := List.getElem?_eq_getElem hi
  refine ⟨l[i].kind, ⟨l[i].text.toArray⟩, l[i].num, l[i].line, l[i].col, ?_, ?_, ?_, ?_, ?_⟩
  · exact tks_at l i 0 _ h (by omega)
  · exact tks_at l i 1 _ h (by omega)
  · exact tks_at l i 2 _ h (by omega)
  · exact tks_at l i 3 _ h (by omega)
  · exact tks_at l i 4 _ h (by omega)
/-- tokens that lie somewhere -/
def TkIn (W : World) (p : Option Addr) (n : Nat) (F : Nat → Value) : Prop := n = 0 ∨ ∃ b o, p = some ⟨b, o, none⟩ ∧ b < W.heap.size ∧ ∀ j, j < n * 5 → W.cell? ⟨b, o + j, none⟩ = some (F j)
theorem TkIn.of_own {W : World} {base : Nat} {p : Option Addr} {n c : Nat} {F : Nat → Value} (h : Own W base 40 5 (.slice p n c) n F) : TkIn W p n F := by
  rcases h.form with ⟨h1, h2⟩ | ⟨g, c', h1, _⟩
  · exact .inl h2
  · injection h1 with h1 _ h3
    subst h1 h3
    refine .inr ⟨g, 0, rfl, (h.kind rfl).2.1, fun j hj => ?_⟩
    rw [Nat.zero_add]
    exact h.cell hj
theorem own_low {W : World} {base base' : Nat} {t : TypeId} {s m : Nat} {v : Value} {F : Nat → Value} (h : Own W base t s v m F) (hb : base' ≤ base) : Own W base' t s v m F := by
  refine ⟨h.1, ?_⟩
  rcases h.2 with h1 | ⟨g, cap, cur, h1, h2, h3⟩
  · exact .inl h1
  · exact .inr ⟨g, cap, cur, h1, Nat.le_trans hb h2, h3⟩
theorem own_form' {W : World} {base : Nat} {t : TypeId} {s m : Nat} {v : Value} {F : Nat → Value} (h : Own W base t s v m F) : ∃ p c, v = .slice p m c ∧ (m = 0 ∨ ∃ g, p = some ⟨g, 0, none⟩) := by
  rcases h.form with ⟨h1, h2⟩ | ⟨g, c', h1, _⟩
  · exact ⟨none, 0, by rw [h1, h2], .inl h2⟩
  · exact ⟨_, _, h1, .inr ⟨g, rfl⟩⟩

set_option maxRecDepth 100000 in
set_option maxHeartbeats 2000000 in
theorem copyTokens_any (p : Option Addr) (n cp : Nat) (F : Nat → Value) (hn : n ≤ 2932031007402) (w : World) (hsrc : TkIn w p n F) (hsh : TkSh n F) : Calls Tryz.prog 16 #[.slice p n cp] w fun e w' => ∃ g, e = .returned (.slice (some ⟨g, 0, none⟩) n n) ∧ Own w' w.heap.size 40 5 (.slice (some ⟨g, 0, none⟩) n n) n F ∧ Below w.heap.size w w' := by
  obtain ⟨i6, hi6, ha6, hb6, hc6⟩ := info_parts infoTk
  have hsz : (Tryz.prog.info? 40).map (·.size) = some 5 := by simp [hi6, hb6]
  have HS : Hid (TkIn w p n F) := hsrc
  clear hsrc
  go_enter Tryz.func16, Tryz.ntmps16
  go_wp2_with (at_make; refine wpList_make_full _ rfl (.tmp 5) (.tmp 5) 35 rfl w.heap.size 40 i6 _ 5 Tryz.underlying35 hi6 ha6 hb6 .i64 .i64 n n n rfl rfl rfl rfl ?c1 ?c2 ?c3 ?_)
  case c1 => rw [hc6]; omega
  case c2 => unfold maxLen; omega
  case c3 => exact Nat.le_refl _
  intro w1 hown hgrow
  have hb1 : Below w.heap.size w w1 := (Below.refl _ _).grown hgrow (Nat.le_refl _) (by simp)
  have hO := own_of_rowT hown
  have hs2 : n = 0 ∨ ∃ ad, p = some ad ∧ ∀ j, j < n * 5 → w1.cell? (ad.add j) = some (F j) := by
    rcases HS.out with h | ⟨b, o, hp, hb, hc⟩
    · exact .inl h
    · exact .inr ⟨_, hp, fun j hj => by rw [addr_add0]; exact (World.cell?_of_block (a := ⟨b, o + j, none⟩) (hb1.block b hb)).trans (hc j hj)⟩
  have HB1 : Hid (Below w.heap.size w w1) := hb1
  clear hown hgrow hb1
  go_wp2_with (refine wpList_copy_head rfl (.tmp 7) (.tmp 8) 35 35 rfl 40 5 Tryz.underlying35 hsz w.heap.size w.heap.size n n n cp p rfl rfl (Nat.le_refl _) _ F hO (fun j hj => hsh.one hj) hs2 w.heap.size w HB1.out (Nat.le_refl _) ?_; intro w2 hO2 hB2)
  have hO3 : Own w2 w.heap.size 40 5 (.slice (some ⟨w.heap.size, 0, none⟩) n n) n F := hO2.out.congr fun j hj => by rw [if_pos hj]
  go_ret
  exact ⟨_, rfl, hO3, hB2⟩

/-- what Scan hands out: the tokens, or none -/
def toks (x : Bs) : List Tk := if (scanT x).2 = none then (scanT x).1 else []
theorem toks_len (x : Bs) : (toks x).length ≤ 16384 := by
  unfold toks
  split
  · exact scanT_count x
  · simp
theorem scan_tk (x : Bs) (hx : x.length ≤ maxLen) (w : World) (g : Gr w) : Calls Tryz.prog 9 #[.string ⟨x.toArray⟩] w fun e w' => ∃ p c ev, e = .returned (.tuple #[.slice p (toks x).length c, ev]) ∧ Own w' w.heap.size 40 5 (.slice p (toks x).length c) (toks x).length (TF (toks x)) ∧ Below w.heap.size w w' := by
  refine (scan_any x hx w g).mono ?_
  rintro e w' ⟨hb, ⟨h0, v, rfl, ho⟩ | ⟨er, b, h0, rfl, _⟩⟩
  · have et : toks x = (scanT x).1 := by unfold toks; rw [if_pos h0]
    rw [← et] at ho
    have hO := own_tks.2 ho
    obtain ⟨p, c, rfl, _⟩ := own_form' hO
    exact ⟨p, c, _, rfl, hO, hb⟩
  · have et : toks x = [] := by unfold toks; rw [if_neg (by rw [h0]; simp)]
    rw [et]
    exact ⟨none, 0, _, rfl, World.ownsRow_nil _ _ _ _, hb⟩

/-- append of something: where the new slice lies, and what stays -/
def AK (w : World) (e : TypeId) (size n m : Nat) (v v' : Value) (w' : World) : Prop :=
  (∃ g cap cur cur', v = .slice (some ⟨g, 0, none⟩) n cap ∧ v' = .slice (some ⟨g, 0, none⟩) (n + m) cap ∧ w.heap[g]? = some (.cells cur e (0, 0)) ∧ w'.heap[g]? = some (.cells cur' e (0, 0)) ∧ cur'.size = cur.size ∧ (∀ j, j < n * size → cur'[j]? = cur[j]?) ∧ (w'.os = w.os ∧ w'.tape = w.tape ∧ w'.output = w.output) ∧ w'.heap.size = w.heap.size ∧ ∀ k : Nat, k ≠ g → w'.heap[k]? = w.heap[k]?) ∨
  (v'.ownBlock = some w.heap.size ∧ Below w.heap.size w w')
theorem run_app_keep {P : Program} (w : World) (base : Nat) (t ty e : TypeId) (i : TypeInfo) (z : Value) (size bytes : Nat) (ht : P.underlying t = some (.slice e)) (hi : P.info? e = some i) (hz : i.zero = some z)
    (hsize : i.size = size) (hby : i.bytes = bytes) (hzs : z.cells.size = size) (hsz : 0 < size) (v : Value) (n : Nat) (xs : List Value) (hown : w.ownsRow base e size v n xs)
    (a : Addr) (m c : Nat) (hm : 0 < m) (news : List Value) (hl : news.length = m * size) (hnews : ∀ j u, news[j]? = some u → w.cell? (a.add j) = some u) (h1 : ∀ u ∈ news, u.oneCell' = true)
    (h63 : n + m ≤ maxLen) (hbytes : (n + m) * bytes ≤ 140737488355328) (hbase : base ≤ w.heap.size) :
    ∃ v' w', (Builtin.append_ #[t, t] ty #[v, .slice (some a) m c]).run P w = .ok v' w' ∧ w'.ownsRow base e size v' (n + m) (xs ++ news) ∧ AK w e size n m v v' w' := by
  obtain ⟨v', w', hr, h2, _⟩ := run_append_own_at (P := P) w base t ty e i z size bytes ht hi hz hsize hby hzs hsz v n xs hown a m c news hl hnews h1 h63 hbytes hbase
  refine ⟨v', w', hr, h2, ?_⟩
  clear h2
  subst hsize hby
  have hsmall : n + m ≤ 9223372036854775807 := by simp only [maxLen] at h63; omega
  rcases hown.2 with ⟨rfl, rfl⟩ | ⟨g, cap, cur, rfl, hbg, hg, hnc, hcm, hcs, htake⟩
  · have hr2 := run_append_nil (P := P) w t ty e i z ht hi hz a m c news hl hnews hm (by omega) (by have hb := hbytes; simp only [Nat.zero_add] at hb; omega)
    rw [hr] at hr2
    injection hr2 with e1 e2
    subst e1 e2
    exact .inr ⟨rfl, (Below.refl _ w).drew.alloc (Nat.le_refl _) _⟩
  · by_cases hroom : n + m ≤ cap
    · have hfit : n * i.size + news.length ≤ cur.size := by rw [hl, hcs, ← Nat.add_mul]; exact Nat.mul_le_mul_right _ hroom
      have hr2 := run_append_room (P := P) w t ty e i ht hi g n cap cur hg a m c news hl hnews h1 hroom hfit
      rw [hr] at hr2
      injection hr2 with e1 e2
      subst e1 e2
      refine .inl ⟨g, cap, cur, _, rfl, rfl, hg, setRow_heap w g cur _ e _ hg, ?_, fun j hj => ?_, ⟨rfl, rfl, rfl⟩, by simp, fun k hk => setRow_other w g k _ hk⟩
      · simp only [List.size_toArray, List.length_append, List.length_take, List.length_drop, Array.length_toList]
        omega
      · rw [List.getElem?_toArray, List.append_assoc, List.getElem?_append_left (by rw [List.length_take, Array.length_toList]; omega), List.getElem?_take, if_pos hj]
        simp
    · have holds : ∀ j u, xs[j]? = some u → w.cell? ((⟨g, 0, none⟩ : Addr).add j) = some u := hown.cells (g := g) rfl
      have hr2 := run_append_grow (P := P) w t ty e i z ht hi hz ⟨g, 0, none⟩ n cap xs hown.1 holds a m c news hl hnews (by omega) (by omega) (growslice_fits (by omega) hbytes)
      rw [hr] at hr2
      injection hr2 with e1 e2
      subst e1 e2
      exact .inr ⟨rfl, (Below.refl _ w).drew.alloc (Nat.le_refl _) _⟩
theorem wpList_app_keep {P : Program} (w : World) {ops : Array Oper} {rest : List Oper} {o : Oper} {a : Act} {Q : Exit → Act → World → Prop} (hgd : o.guard = none) (s x : Operand) (t : TypeId)
    (ho : o.op = .call { callee := .builtin .append, args := #[s, x], argTypes := #[t, t] }) (base : Nat) (e : TypeId) (i : TypeInfo) (z : Value) (size bytes : Nat) (ht : P.underlying t = some (.slice e)) (hi : P.info? e = some i) (hz : i.zero = some z)
    (hsize : i.size = size) (hby : i.bytes = bytes) (hzs : z.cells.size = size) (hsz : 0 < size) (v : Value) (n : Nat) (xs : List Value) (hs : a.eval s = v) (hown : w.ownsRow base e size v n xs)
    (ad : Addr) (m c : Nat) (hm : 0 < m) (news : List Value) (hx : a.eval x = .slice (some ad) m c) (hl : news.length = m * size) (hnews : ∀ j u, news[j]? = some u → w.cell? (ad.add j) = some u) (h1 : ∀ u ∈ news, u.oneCell' = true)
    (h63 : n + m ≤ maxLen) (hbytes : (n + m) * bytes ≤ 140737488355328) (hbase : base ≤ w.heap.size)
    (h : ∀ v' w', w'.ownsRow base e size v' (n + m) (xs ++ news) → AK w e size n m v v' w' → wpList P ops Q rest (a.put o.dst v') w') : wpList P ops Q (o :: rest) a w := by
  refine wpList_plain hgd fun K hK => ?_
  obtain ⟨v', w', hr, h2, h3⟩ := run_app_keep (P := P) w base t o.type e i z size bytes ht hi hz hsize hby hzs hsz v n xs hown ad m c hm news hl hnews h1 h63 hbytes hbase
  unfold Oper.wp execOp
  simp only [ho, resolve, invoke, builtin, Sem.run_bind, Sem.run_pure, Result.andThen_ok, List.map_toArray, List.map_cons, List.map_nil, hs, hx, hr]
  exact hK _ _ (h v' w' h2 h3)
end Go.Proofs.YtmekcccmnkgodaaGreatDoor
