import Derived.Test.YtagchghhpggnlaaGreatYRO2
import Derived.Test.YtagchghhpggnlaaGreatYOP5
import Derived.Deep.Upon
import Derived.Test.YtagchghhpggnlaaGreatYQ0
import Derived.Lib.AppendZerosOnto
import Derived.Test.YtagchghhpggnlaaGreatYRP4
import Derived.Lib.AppendZeros
import Derived.Test.YtagchghhpggnlaaGreatYRN20
import Derived.Test.YtagchghhpggnlaaGreatYRN24a
import Derived.Test.YtagchghhpggnlaaGreatYRR1
import Derived.Test.YtagchghhpggnlaaGreatYRB1
import Derived.Test.YtagchghhpggnlaaGreatYRC2
import Derived.BigQuiet
namespace Go.Proofs.YtagchghhpggnlaaGreat
open Go.ChangeShapes Go.WideShapes Go.ChangeAt Go.RowKit
set_option linter.unusedVariables false
set_option linter.unusedSimpArgs false

theorem seF_onesX (c : Nat → Se) (n : Nat) : ∀ u ∈ cellsF (seF c) n, u.oneCell' = true := fun u hu => by
  obtain ⟨k, hk, rfl⟩ := List.getElem_of_mem hu
  rw [cellsF_len] at hk
  have h1 := cellsF_at (seF c) hk
  rw [List.getElem?_eq_getElem (by rw [cellsF_len]; exact hk)] at h1
  rw [Option.some.inj h1]
  exact seF_one c k
/-! ### events that lie somewhere, appended to a row of the call's own -/
def catS (O X : Nat → Se) (n : Nat) : Nat → Se := fun t => if t < n then O t else X (t - n)
theorem catS_cells (O X : Nat → Se) (n m : Nat) : cellsF (seF O) (n * 6) ++ cellsF (seF X) (m * 6) = cellsF (seF (catS O X n)) ((n + m) * 6) := by
  rw [cellsF_append, Nat.add_mul]
  refine cellsF_congr fun j hj => ?_
  by_cases h : j < n * 6
  · rw [if_pos h]
    unfold seF catS
    rw [if_pos (by omega)]
  · rw [if_neg h]
    unfold seF catS
    rw [if_neg (by omega), show (j - n * 6) / 6 = j / 6 - n by omega, show (j - n * 6) % 6 = j % 6 by omega]
theorem grown_refl (w : World) (r : Option Nat) : w.grownBy w r := ⟨rfl, rfl, rfl, Nat.le_refl _, fun _ _ _ => rfl⟩
theorem app_in (w : World) (base : Nat) (ty : TypeId) (v : Value) (n : Nat) (O : Nat → Se) (p : Option Addr) (m c : Nat) (X : Nat → Se) (ho : Own w base 39 6 v n (seF O)) (hs : SIn w p m X) (hnm : n + m ≤ 1000000000000) (hb : base ≤ w.heap.size) :
    ∃ v' w', (Builtin.append_ #[34, 34] ty #[v, .slice p m c]).run Tryz.prog w = .ok v' w' ∧ Own w' base 39 6 v' (n + m) (seF (catS O X n)) ∧ w.grownBy w' v.ownBlock ∧ (v'.ownBlock = v.ownBlock ∨ v'.ownBlock = some w.heap.size) := by
  obtain ⟨iE, hE1, hE2, hE3, hE4⟩ := sinfo infoSE
  by_cases h0 : m = 0
  · subst h0
    obtain ⟨vp, vc, rfl⟩ := own_slice ho
    have hle : n ≤ vc := by
      rcases ho.form with ⟨h1, h2⟩ | ⟨g, c', h1, _, _⟩
      · omega
      · rw [h1] at ho
        obtain ⟨_, _, _, h5, _⟩ := Own.block ho
        injection h1 with e1 e2 e3
        omega
    refine ⟨.slice vp n vc, w, ?_, ?_, grown_refl _ _, .inl rfl⟩
    · refine run_append_nothing w 34 34 ty 39 iE Tryz.underlying34 hE1 vp n vc hle (.slice p 0 c) ?_
      cases p with
      | none => exact Src.ofNil w Tryz.underlying34 c
      | some a => exact Src.ofSlice w Tryz.underlying34 a 0 c [] (by simp) (fun j u h => by simp at h) (fun u h => by cases h)
    · refine ho.congr fun j hj => ?_
      unfold seF catS
      rw [if_pos (by omega)]
  · rcases hs with h | ⟨b, o, rfl, hlt, hc⟩
    · exact absurd h h0
    have hnews : ∀ j u, (cellsF (seF X) (m * 6))[j]? = some u → w.cell? ((⟨b, o, none⟩ : Addr).add j) = some u := fun j u hu => by
      have hj : j < m * 6 := by
        have := (List.getElem?_eq_some_iff.1 hu).1
        rwa [cellsF_len] at this
      rw [cellsF_at _ hj] at hu
      cases hu
      rw [addr_add0]
      exact hc j hj
    obtain ⟨v', w', hr, h2, h3, h4, h5⟩ := run_append_own_at (P := Tryz.prog) w base 34 ty 39 iE _ 6 48 Tryz.underlying34 hE1 hE2 hE3 hE4 rfl (by decide) v n _ ho ⟨b, o, none⟩ m c (cellsF (seF X) (m * 6)) (cellsF_len _ _) hnews (seF_onesX X _) (by unfold maxLen; omega) (by omega) hb
    refine ⟨v', w', hr, ?_, h3, h5⟩
    unfold Own
    rw [← catS_cells]
    exact h2
end Go.Proofs.YtagchghhpggnlaaGreat
namespace Go.Proofs.YtagchghhpggnlaaGreat
open Go.ChangeShapes Go.WideShapes Go.ChangeAt Go.RowKit
set_option linter.unusedVariables false

theorem run_append_room_zeros {P : Program} (w : World) (t tn ty e : TypeId) (i : TypeInfo) (z : Value) (kq kn : IntKind) (ht : P.underlying t = some (.slice e)) (htn : P.underlying tn = some (.int kn)) (hi : P.info? e = some i) (hz : i.zero = some z)
    (g sLen sCap : Nat) (cur : Array Value) (hg : w.heap[g]? = some (.cells cur e (0, 0))) (k : Nat) (h0 : 0 < k) (hs : 0 < i.size) (h63 : (k : Int) ≤ 9223372036854775807) (h48 : k * i.bytes ≤ 281474976710656)
    (h1 : ∀ u ∈ (Builtin.zeroCells z.cells k).toList, u.oneCell' = true) (hroom : sLen + k ≤ sCap) (hfit : sLen * i.size + (Builtin.zeroCells z.cells k).toList.length ≤ cur.size) :
    (Builtin.append_ #[t, tn] ty #[.slice (some ⟨g, 0, none⟩) sLen sCap, .int kq k]).run P w =
      .ok (.slice (some ⟨g, 0, none⟩) (sLen + k) sCap) (w.setRow g (cur.toList.take (sLen * i.size) ++ (Builtin.zeroCells z.cells k).toList ++ cur.toList.drop (sLen * i.size + (Builtin.zeroCells z.cells k).toList.length)).toArray) := by
  have hst := run_storeCells_at P g (sLen * i.size) e (Builtin.zeroCells z.cells k).toList 0 cur w hg (by simpa using hfit) h1
  simp only [Nat.add_zero] at hst
  have hk : k ≠ 0 := by omega
  have hw : IntKind.i64.wrap (k : Int) = k := by rw [IntKind.wrap_i64]; omega
  have h48i : ¬ (281474976710656 < (k : Int) * (i.bytes : Int)) := by
    rw [← Int.natCast_mul]
    omega
  have hneg : ¬ ((k : Int) < 0) := by omega
  have hns : ¬ (k * i.size = 0) := Nat.mul_ne_zero hk (by omega)
  simp [Builtin.append_, run_underlying ht, run_underlying htn, sizeOf, typeInfo, zeroValue, hi, hz, asInt, asIntOf, hw, hroom, hneg, hns, h48i, Addr.add_lit, hst]

theorem run_append_own_zeros {P : Program} (w : World) (base : Nat) (t tn ty e : TypeId) (i : TypeInfo) (z : Value) (kq kn : IntKind) (size bytes : Nat) (ht : P.underlying t = some (.slice e)) (htn : P.underlying tn = some (.int kn)) (hi : P.info? e = some i) (hz : i.zero = some z)
    (hsize : i.size = size) (hby : i.bytes = bytes) (hzs : z.cells.size = size) (hsz : 0 < size) (v : Value) (n : Nat) (xs : List Value) (hown : w.ownsRow base e size v n xs) (k : Nat) (h0 : 0 < k)
    (h1 : ∀ u ∈ (Builtin.zeroCells z.cells k).toList, u.oneCell' = true) (h63 : n + k ≤ maxLen) (hbytes : (n + k) * bytes ≤ 140737488355328) (hbase : base ≤ w.heap.size) :
    ∃ v' w', (Builtin.append_ #[t, tn] ty #[v, .int kq k]).run P w = .ok v' w' ∧ w'.ownsRow base e size v' (n + k) (xs ++ (Builtin.zeroCells z.cells k).toList) ∧ w.grownBy w' v.ownBlock ∧ (v'.ownBlock = v.ownBlock ∨ v'.ownBlock = some w.heap.size) ∧ w'.ownsRow base e size v n xs := by
  subst hsize
  subst hby
  have hl : (Builtin.zeroCells z.cells k).toList.length = k * i.size := by rw [Array.length_toList, size_zeroCells, hzs]
  have hsmall : n + k ≤ 9223372036854775807 := by simp only [maxLen] at h63; omega
  have hb1 : k * i.bytes ≤ 281474976710656 := by have := Nat.mul_le_mul_right i.bytes (Nat.le_add_left k n); omega
  have hlen : (xs ++ (Builtin.zeroCells z.cells k).toList).length = (n + k) * i.size := by rw [List.length_append, hown.1, hl, Nat.add_mul]
  have grown : ∀ (old : Nat), old < n + k → ∀ (row : Option Nat),
      (w.drew.alloc (.cells (xs.toArray ++ Builtin.zeroCells z.cells k ++ Builtin.zeroCells z.cells (grownCap w (n + k) old e - (n + k))) e)).ownsRow base e i.size
        (.slice (some ⟨w.heap.size, 0, none⟩) (n + k) (grownCap w (n + k) old e)) (n + k) (xs ++ (Builtin.zeroCells z.cells k).toList) ∧
      w.grownBy (w.drew.alloc (.cells (xs.toArray ++ Builtin.zeroCells z.cells k ++ Builtin.zeroCells z.cells (grownCap w (n + k) old e - (n + k))) e)) row := by
    intro old ho row
    have hge := grownCap_ge w (n + k) old e
    have hcm : grownCap w (n + k) old e ≤ maxLen := grownCap_le_maxLen w (n + k) old e h63
    refine ⟨⟨hlen, .inr ⟨w.heap.size, _, _, rfl, hbase, heap_alloc_new w.drew _, hge, hcm, ?_, ?_⟩⟩, ⟨rfl, rfl, rfl, by simp, fun j hj _ => Below.heap_alloc w.drew _ j hj⟩⟩
    · simp only [Array.size_append, List.size_toArray, size_zeroCells, hzs, hown.1, ← Nat.add_mul]
      congr 1
      omega
    · simp only [Array.toList_append, List.append_assoc]
      rw [← List.append_assoc, ← hlen]
      exact List.take_left
  rcases hown.2 with ⟨rfl, rfl⟩ | ⟨g, cap, cur, rfl, hbg, hg, hnc, hcm, hcs, htake⟩
  · have hx : xs = [] := List.eq_nil_of_length_eq_zero (by simpa using hown.1)
    subst hx
    have hr := Lib.run_append_nil_zeros (P := P) w t tn ty e i z kq kn ht htn hi hz k h0 hsz (by omega) hb1
    have hgr := grown 0 (by omega) (Value.ownBlock (.slice none 0 0))
    simp only [Nat.zero_add, List.nil_append, Array.empty_append] at hgr ⊢
    exact ⟨_, _, hr, hgr.1, hgr.2, Or.inr rfl, World.ownsRow_nil _ _ _ _⟩
  · by_cases hroom : n + k ≤ cap
    · have hfit : n * i.size + (Builtin.zeroCells z.cells k).toList.length ≤ cur.size := by rw [hl, hcs, ← Nat.add_mul]; exact Nat.mul_le_mul_right _ hroom
      have hr := run_append_room_zeros (P := P) w t tn ty e i z kq kn ht htn hi hz g n cap cur hg k h0 hsz (by omega) hb1 h1 hroom hfit
      refine ⟨_, _, hr, ⟨hlen, .inr ⟨g, cap, _, rfl, hbg, setRow_heap w g cur _ e _ hg, hroom, hcm, ?_, ?_⟩⟩, ⟨rfl, rfl, rfl, by simp, fun k _ hk => setRow_other w g k _ (fun e => hk (by simp [Value.ownBlock, e]))⟩, Or.inl rfl, ⟨hown.1, .inr ⟨g, cap, _, rfl, hbg, setRow_heap w g cur _ e _ hg, hnc, hcm, ?_, ?_⟩⟩⟩
      · simp only [List.size_toArray, List.length_append, List.length_take, List.length_drop, Array.length_toList]
        rw [Array.length_toList] at hfit
        omega
      · rw [htake, ← hlen]
        exact List.take_left
      · simp only [List.size_toArray, List.length_append, List.length_take, List.length_drop, Array.length_toList]
        rw [Array.length_toList] at hfit
        omega
      · rw [htake, List.append_assoc, ← hown.1]
        exact List.take_left
    · have holds : ∀ j u, xs[j]? = some u → w.drew.cell? ((⟨g, 0, none⟩ : Addr).add j) = some u := hown.cells (g := g) rfl
      have hold := run_firstCells_some (P := P) w.drew i.size n ⟨g, 0, none⟩ n cap xs hown.1 holds
      have hr := Lib.run_append_grow_zeros (P := P) w t tn ty e i z kq kn ht htn hi hz (some ⟨g, 0, none⟩) n cap xs hold k h0 hsz (by omega) (by omega) hb1 (growslice_fits (by omega) hbytes)
      have hgr := grown cap (by omega) (Value.ownBlock (.slice (some ⟨g, 0, none⟩) n cap))
      exact ⟨_, _, hr, hgr.1, hgr.2, Or.inr rfl, ⟨hown.1, .inr ⟨g, cap, cur, rfl, hbg, (Below.heap_alloc w.drew _ g (Array.getElem?_eq_some_iff.1 hg).1).trans hg, hnc, hcm, hcs, htake⟩⟩⟩
end Go.Proofs.YtagchghhpggnlaaGreat
namespace Go.Proofs.YtagchghhpggnlaaGreat
open Go.ChangeShapes Go.WideShapes Go.ChangeAt Go.RowKit
set_option linter.unusedVariables false
set_option linter.unusedSimpArgs false

def zeSM : Se := ⟨0, 0, 0, 0, 0, 0⟩
def zeroCM (x : Nat) : Value :=
  match x % 6 with
  | 0 => .int .u64 0
  | 2 => .int .u64 0
  | _ => .int .i64 0
def zEvM : Value := .agg #[.int .u64 0, .int .i64 0, .int .u64 0, .int .i64 0, .int .i64 0, .int .i64 0]
theorem mod6M (x : Nat) : x % 6 = 0 ∨ x % 6 = 1 ∨ x % 6 = 2 ∨ x % 6 = 3 ∨ x % 6 = 4 ∨ x % 6 = 5 := by omega
theorem zeroC_eqM (x : Nat) : zEvM.cells[x % zEvM.cells.size]! = zeroCM x := by
  have h6 : zEvM.cells.size = 6 := rfl
  rw [h6]
  unfold zeroCM
  rcases mod6M x with h | h | h | h | h | h <;> rw [h] <;> rfl
theorem zeros_eqM (k : Nat) : (Builtin.zeroCells zEvM.cells k).toList = cellsF zeroCM (k * 6) := by
  unfold Builtin.zeroCells
  rw [Array.toList_map, Array.toList_range]
  have h6 : zEvM.cells.size = 6 := rfl
  rw [h6]
  exact cellsF_congr (fun j _ => zeroC_eqM j)
theorem zeroC_oneM (x : Nat) : (zeroCM x).oneCell' = true := by
  unfold zeroCM
  split <;> rfl
theorem infoPM {i? : Option TypeInfo} {z : Value} {s b : Nat} (h : i?.map (fun i => (i.zero, i.size, i.bytes)) = some (some z, s, b)) : ∃ i, i? = some i ∧ i.zero = some z ∧ i.size = s ∧ i.bytes = b := by
  cases i? with
  | none => cases h
  | some i =>
    simp at h
    exact ⟨i, rfl, h.1, h.2.1, h.2.2⟩
/-! ### lists of events -/
structure LsP where
  p : Option Addr
  c : Nat
  n : Nat
  X : Nat → Se
def LsIn (W : World) (p : Option Addr) (m : Nat) (Y : Nat → LsP) : Prop := (m = 0 ∨ ∃ b o, p = some ⟨b, o, none⟩ ∧ b < W.heap.size ∧ ∀ k, k < m → W.cell? ⟨b, o + k, none⟩ = some (.slice (Y k).p (Y k).n (Y k).c)) ∧ ∀ k, k < m → SIn W (Y k).p (Y k).n (Y k).X
theorem LsIn.below {W W' : World} {p : Option Addr} {m : Nat} {Y : Nat → LsP} (h : LsIn W p m Y) (hb : Below W.heap.size W W') : LsIn W' p m Y := by
  refine ⟨?_, fun k hk => (h.2 k hk).below hb⟩
  rcases h.1 with h | ⟨b, o, h1, h2, h3⟩
  · exact .inl h
  · exact .inr ⟨b, o, h1, Nat.lt_of_lt_of_le h2 hb.size, fun k hk => (cell_below (a := ⟨b, o + k, none⟩) hb h2).trans (h3 k hk)⟩
def offL (Y : Nat → LsP) : Nat → Nat
  | 0 => 0
  | k + 1 => offL Y k + (Y k).n
def catL (Y : Nat → LsP) : Nat → Nat → Se
  | 0 => fun _ => zeSM
  | k + 1 => catS (catL Y k) (Y k).X (offL Y k)
theorem offL_mono (Y : Nat → LsP) {j k : Nat} (h : j ≤ k) : offL Y j ≤ offL Y k := by
  induction k with
  | zero => rw [show j = 0 by omega]; exact Nat.le_refl _
  | succ k ih =>
    by_cases e : j = k + 1
    · rw [e]; exact Nat.le_refl _
    · have := ih (by omega)
      show offL Y j ≤ offL Y k + (Y k).n
      omega
/-! ### the document's Merge -/
theorem own_cut0 {W : World} {base g m c : Nat} {F G : Nat → Value} {t : TypeId} {s : Nat} (h : Own W base t s (.slice (some ⟨g, 0, none⟩) m c) m F) : Own W base t s (.slice (some ⟨g, 0, none⟩) 0 c) 0 G := by
  obtain ⟨cur, h1, h2, h3, h4, h5, h6⟩ := Own.block h
  exact Own.mk' h1 h2 (Nat.zero_le _) h4 h5 fun j hj => by omega
theorem zeros_one' (n : Nat) : ∀ u ∈ (Builtin.zeroCells zEvM.cells n).toList, u.oneCell' = true := fun u hu => by
  rw [zeros_eqM] at hu
  unfold cellsF at hu
  obtain ⟨x, _, rfl⟩ := List.mem_map.1 hu
  exact zeroC_oneM x
set_option maxRecDepth 100000 in
set_option maxHeartbeats 4000000 in
theorem grow_any (n : Nat) (hn : n ≤ 1000000000000) (w : World) : Calls Tryz.prog 89 #[.slice none 0 0, .int .i64 (n : Int)] w fun e w' => ∃ v, e = .returned v ∧ Own w' w.heap.size 39 6 v 0 (seF (fun _ => zeSM)) ∧ Below w.heap.size w w' := by
  have d0 : decide ((n : Int) < 0) = false := by simp
  by_cases h0 : n = 0
  · subst h0
    go_enter Tryz.func89, Tryz.ntmps89
    go_wp2_with fail
    go_ret
    exact ⟨_, rfl, World.ownsRow_nil _ _ _ _, Below.refl _ _⟩
  · obtain ⟨iE, hE1, hE2, hE3, hE4⟩ := infoPM infoSE
    have d1 : decide ((0 : Int) < (n : Int)) = true := by simp; omega
    have e1 : IntKind.i64.wrap ((n : Int) - 0) = (n : Int) := by rw [IntKind.wrap_i64]; omega
    have e2 : IntKind.i64.wrap (n : Int) = (n : Int) := by rw [IntKind.wrap_i64]; omega
    obtain ⟨v', w', hr, h2, h3, h4, h5⟩ := run_append_own_zeros (P := Tryz.prog) w w.heap.size 34 3 34 39 iE zEvM .i64 .i64 6 48 Tryz.underlying34 Tryz.underlying3 hE1 hE2 hE3 hE4 rfl (by decide) (.slice none 0 0) 0 [] (World.ownsRow_nil _ _ _ _) n (by omega) (zeros_one' n) (by unfold maxLen; omega) (by omega) (Nat.le_refl _)
    have hb' : Below w.heap.size w w' := (Below.refl _ w).grown h3 (Nat.le_refl _) (fun k hk => by cases hk)
    have ho := own_of_row h2
    rw [Nat.zero_add] at ho
    obtain ⟨g, c, rfl⟩ : ∃ g c, v' = .slice (some ⟨g, 0, none⟩) n c := by
      rcases ho.form with ⟨h1, h2⟩ | ⟨g, c', h1, _, _⟩
      · omega
      · exact ⟨g, c', h1⟩
    have hcut : Hid (Own w' w.heap.size 39 6 (.slice (some ⟨g, 0, none⟩) 0 c) 0 (seF (fun _ => zeSM)) ∧ Below w.heap.size w w') := ⟨own_cut0 ho, hb'⟩
    have hcn : n ≤ c := by
      obtain ⟨_, _, _, h9, _⟩ := Own.block ho
      exact h9
    clear h2 h3 h4 h5 ho hb'
    go_enter Tryz.func89, Tryz.ntmps89
    go_wp2_with (at_builtin; refine Lib.wpList_append_run _ rfl _ _ 34 3 rfl _ _ rfl rfl _ _ hr ?_)
    go_ret
    exact ⟨_, rfl, hcut.out⟩
set_option maxRecDepth 100000 in
set_option maxHeartbeats 4000000 in
theorem concat_any (p : Option Addr) (m cp : Nat) (Y : Nat → LsP) (hm : m ≤ 1000000000000) (hn : offL Y m ≤ 1000000000000) (w : World) (h : LsIn w p m Y) : Calls Tryz.prog 63 #[.slice p m cp] w fun e w' => ∃ v, e = .returned v ∧ Own w' w.heap.size 39 6 v (offL Y m) (seF (catL Y m)) ∧ Below w.heap.size w w' := by
  have HH : Hid (LsIn w p m Y) := h
  clear h
  go_enter Tryz.func63, Tryz.ntmps63
  go_wp2_with fail
  go_loopw [3, 11] (fun v x wr => ∃ k : Nat, x = .int .i64 (k : Int) ∧ k ≤ m ∧ v = .int .i64 (offL Y k : Nat) ∧ wr = w) (fun _ x _ => m - (intOf x).toNat)
  case atStart => exact ⟨0, rfl, Nat.zero_le _, rfl, rfl⟩
  case round =>
    obtain ⟨k, rfl, hk, rfl, hw⟩ := hrel
    subst wr
    by_cases hlt : k < m
    · have dlt : decide ((k : Int) < (m : Int)) = true := by simp; omega
      have i0 : (0 : Int) ≤ (k : Int) := by omega
      have i1 : (k : Int) < (m : Int) := by omega
      have ei : IntKind.i64.wrap ((k : Int) + 1) = (k : Int) + 1 := by rw [IntKind.wrap_i64]; omega
      have hme := meas hlt
      rcases HH.out.1 with hz | ⟨b, o, hp, hlb, hc⟩
      · omega
      have c0 := hc k hlt
      have hof : offL Y (k + 1) ≤ offL Y m := offL_mono Y hlt
      have hofk : offL Y (k + 1) = offL Y k + (Y k).n := rfl
      obtain ⟨a, ha⟩ : ∃ a, offL Y k = a := ⟨_, rfl⟩
      obtain ⟨z, hz⟩ : ∃ z, offL Y (k + 1) = z := ⟨_, rfl⟩
      rw [ha, hz] at hofk
      rw [hz] at hof
      have es : IntKind.i64.wrap ((a : Int) + ((Y k).n : Int)) = (z : Int) := by rw [IntKind.wrap_i64]; omega
      have ds : decide ((z : Int) < 0) = false := by simp
      have HZ : Hid (offL Y (k + 1) = z) := hz
      rw [hp, ha]
      clear hc hlb hof hofk hp ha hz
      go_wp2_with fail
      exact ⟨⟨k + 1, rfl, hlt, by rw [HZ.out], trivial⟩, hme⟩
    · have dlt : decide ((k : Int) < (m : Int)) = false := by simp; omega
      obtain rfl : k = m := by omega
      have HG := grow_any (offL Y k) hn w
      go_wp2_with (go_at_call 89; (with_reducible refine HG.mono ?_); rintro e9 w3 ⟨gv, rfl, h5, h6⟩)
      have HG3 : Hid (Own w3 w.heap.size 39 6 gv 0 (seF (fun _ => zeSM)) ∧ Below w.heap.size w w3) := ⟨h5, h6⟩
      clear h5 h6
      go_loopw [6, 27] (fun v x wr => ∃ j : Nat, x = .int .i64 (j : Int) ∧ j ≤ k ∧ Own wr w.heap.size 39 6 v (offL Y j) (seF (catL Y j)) ∧ Below w.heap.size w wr) (fun _ x _ => k - (intOf x).toNat)
      case atStart => exact ⟨0, rfl, Nat.zero_le _, HG3.out.1, HG3.out.2⟩
      case round =>
        obtain ⟨j, rfl, hj, ho, hb⟩ := hrel
        by_cases hlt : j < k
        · have dlt : decide ((j : Int) < (k : Int)) = true := by simp; omega
          have i0 : (0 : Int) ≤ (j : Int) := by omega
          have i1 : (j : Int) < (k : Int) := by omega
          have ei : IntKind.i64.wrap ((j : Int) + 1) = (j : Int) + 1 := by rw [IntKind.wrap_i64]; omega
          have hme := meas hlt
          have hl := HH.out.below hb
          rcases hl.1 with hz | ⟨b, o, hp, hlb, hc⟩
          · omega
          have c0 := hc j hlt
          have hof : offL Y (j + 1) ≤ offL Y k := offL_mono Y hlt
          obtain ⟨v', w', hr, h2, h3, h4⟩ := app_in wr w.heap.size 34 u6 (offL Y j) (catL Y j) (Y j).p (Y j).n (Y j).c (Y j).X ho (hl.2 j hlt) (by have : offL Y (j + 1) = offL Y j + (Y j).n := rfl; omega) hb.size
          have hb' : Below w.heap.size w w' := hb.grown h3 hb.size (fun r' e => (Own.lt ho r' e).1)
          have H2 : Hid (Own w' w.heap.size 39 6 v' (offL Y (j + 1)) (seF (catL Y (j + 1))) ∧ Below w.heap.size w w') := ⟨h2, hb'⟩
          rw [hp]
          clear hl hc hlb h2 h3 h4 hb' ho hb hof hp
          go_wp2_with (at_builtin; refine Lib.wpList_append_run _ rfl _ _ 34 34 rfl _ _ rfl rfl _ _ hr ?_)
          exact ⟨⟨j + 1, rfl, hlt, H2.out⟩, hme⟩
        · have dlt : decide ((j : Int) < (k : Int)) = false := by simp; omega
          obtain rfl : j = k := by omega
          have HF : Hid (Own wr w.heap.size 39 6 u6 (offL Y j) (seF (catL Y j)) ∧ Below w.heap.size w wr) := ⟨ho, hb⟩
          clear ho hb
          go_wp2_with fail
          go_ret
          exact ⟨_, rfl, HF.out⟩
set_option maxRecDepth 100000 in
set_option maxHeartbeats 4000000 in
theorem merge_any (p : Option Addr) (m cp : Nat) (Y : Nat → LsP) (hm : m ≤ 1000000000000) (hn : offL Y m ≤ 1000000000000) (w : World) (h : LsIn w p m Y) : Calls Tryz.prog 30 #[.slice p m cp] w fun e w' => ∃ g d, e = .returned (.slice (some ⟨g, 0, none⟩) (offL Y m) (offL Y m)) ∧ SRow w' w.heap.size g (offL Y m) (offL Y m) d ∧ Stb klt 0 (offL Y m) (catL Y m) d ∧ Srt klt 0 (offL Y m) d ∧ Below w.heap.size w w' := by
  have HC := concat_any p m cp Y hm hn w h
  obtain ⟨n, hnn⟩ : ∃ n, offL Y m = n := ⟨_, rfl⟩
  rw [hnn] at HC hn ⊢
  clear hnn h
  go_enter Tryz.func30, Tryz.ntmps30
  go_wp2_with (first | (go_at_call 63; (with_reducible refine HC.mono ?_); rintro e1 w1 ⟨v, rfl, h1, h2⟩; obtain ⟨vp, vc, rfl⟩ := own_slice h1; have HO := order_any vp n vc (catL Y m) (by omega) w1 (own_sin0 h1); have HB : Hid (Below w.heap.size w w1) := h2; clear h1 h2) | (go_at_call 29; (with_reducible refine HO.mono ?_); rintro e2 w2 ⟨g, d, rfl, h5⟩; have H5 : Hid (SRow w2 w1.heap.size g n n d ∧ Stb klt 0 n (catL Y m) d ∧ Srt klt 0 n d ∧ Below w1.heap.size w1 w2) := h5; clear h5))
  go_ret
  exact ⟨g, d, rfl, Own.lower H5.out.1 HB.out.size, H5.out.2.1, H5.out.2.2.1, HB.out.trans (H5.out.2.2.2.mono HB.out.size)⟩
end Go.Proofs.YtagchghhpggnlaaGreat
namespace Go.Proofs.YtagchghhpggnlaaGreat
open Go.ChangeShapes Go.WideShapes Go.ChangeAt Go.RowKit
set_option linter.unusedVariables false
set_option linter.unusedSimpArgs false

theorem callsY {f : FuncId} {args : Array Value} {w : World} {P : Prop} {Q : World → Prop} (h : Calls Tryz.prog f args w fun e w' => ∃ b, e = .returned (.bool b) ∧ (b = true ↔ P) ∧ Q w') (hp : P) : Calls Tryz.prog f args w fun e w' => e = .returned (.bool true) ∧ Q w' := by
  refine h.mono ?_
  rintro e w' ⟨b, rfl, h1, h2⟩
  rw [h1.2 hp]
  exact ⟨rfl, h2⟩
theorem eql_key_same (t s q : Int) (W : World) : (binOp .eql 32 (.agg #[.int .u64 t, .int .i64 s, .int .u64 q]) (.agg #[.int .u64 t, .int .i64 s, .int .u64 q])).run Tryz.prog W = .ok (.bool true) W := by
  go_simp
set_option maxRecDepth 100000 in
set_option maxHeartbeats 4000000 in
theorem replays_bad (p : Pl) (v : PlV) (w : World) (h : PlAt w p v) (c0 : Int) (hc0 : VC p c0) (hz : c0 ≠ 0) : Calls Tryz.prog 7 #[.agg #[.int .i64 p.ki, .slice v.pp p.np v.pc, .slice v.tp p.nq v.tc, .slice v.sp p.ns v.sc, .int .u64 p.sd, .int .u64 p.lk, .int .u64 p.en, .int .i64 p.bu, .int .i64 p.fu]] w fun e w' => e = .returned (.bool true) ∧ Below w.heap.size w w' := by
  obtain ⟨wb, hwb⟩ : ∃ wb, w.alloc (.cells #[.int .i64 p.ki, .slice v.pp p.np v.pc, .slice v.tp p.nq v.tc, .slice v.sp p.ns v.sc, .int .u64 p.sd, .int .u64 p.lk, .int .u64 p.en, .int .i64 p.bu, .int .i64 p.fu] 27) = wb := ⟨_, rfl⟩
  obtain ⟨hb0, hbox, hsz⟩ := boxed _ _ _ hwb
  have HH : Hid (w.alloc (.cells #[.int .i64 p.ki, .slice v.pp p.np v.pc, .slice v.tp p.nq v.tc, .slice v.sp p.ns v.sc, .int .u64 p.sd, .int .u64 p.lk, .int .u64 p.en, .int .i64 p.bu, .int .i64 p.fu] 27) = wb) := hwb
  have HA := awake_any wb
  have HV : ∀ W, Below wb.heap.size wb W → Hid (Calls Tryz.prog 14 #[.agg #[.int .i64 p.ki, .slice v.pp p.np v.pc, .slice v.tp p.nq v.tc, .slice v.sp p.ns v.sc, .int .u64 p.sd, .int .u64 p.lk, .int .u64 p.en, .int .i64 p.bu, .int .i64 p.fu]] W fun e w' => e = .returned (.int .i64 c0) ∧ Below W.heap.size W w') := fun W hb => by
    refine (valid_any p v W ((h.below hb0).below hb)).mono ?_
    rintro e w' ⟨c, rfl, k1, k2⟩
    rw [k1.one hc0]
    exact ⟨rfl, k2⟩
  have KK : ∀ W, Below wb.heap.size wb W → Hid (W.cell? ⟨w.heap.size, 0, none⟩ = some (.int .i64 p.ki) ∧ W.cell? ⟨w.heap.size, 1, none⟩ = some (.slice v.pp p.np v.pc) ∧ W.cell? ⟨w.heap.size, 2, none⟩ = some (.slice v.tp p.nq v.tc) ∧ W.cell? ⟨w.heap.size, 3, none⟩ = some (.slice v.sp p.ns v.sc) ∧ W.cell? ⟨w.heap.size, 4, none⟩ = some (.int .u64 p.sd) ∧ W.cell? ⟨w.heap.size, 5, none⟩ = some (.int .u64 p.lk) ∧ W.cell? ⟨w.heap.size, 6, none⟩ = some (.int .u64 p.en) ∧ W.cell? ⟨w.heap.size, 7, none⟩ = some (.int .i64 p.bu) ∧ W.cell? ⟨w.heap.size, 8, none⟩ = some (.int .i64 p.fu)) := fun W hb => by
    have hx := (hb.block _ (lt_of_block hbox)).trans hbox
    exact ⟨cell_in hx rfl, cell_in hx rfl, cell_in hx rfl, cell_in hx rfl, cell_in hx rfl, cell_in hx rfl, cell_in hx rfl, cell_in hx rfl, cell_in hx rfl⟩
  have HB : Hid (Below w.heap.size w wb ∧ wb.heap[w.heap.size]? = some (.cells #[.int .i64 p.ki, .slice v.pp p.np v.pc, .slice v.tp p.nq v.tc, .slice v.sp p.ns v.sc, .int .u64 p.sd, .int .u64 p.lk, .int .u64 p.en, .int .i64 p.bu, .int .i64 p.fu] 27 (0, 0))) := ⟨hb0, hbox⟩
  have q0 : (c0 != 0) = true := by simpa using hz
  have q1 : (c0 == 0) = false := by simpa using hz
  clear hwb hb0 hbox hsz h hc0 hz
  go_enter Tryz.func7, Tryz.ntmps7
  go_wp2_with (first | (go_at_call 13; rw [HH.out]; (with_reducible refine HA.mono ?_); rintro e w1 ⟨rfl, hb1⟩; obtain ⟨f0, f1, f2, f3, f4, f5, f6, f7, f8⟩ := (KK w1 hb1).out) | (go_at_call 14; (with_reducible refine (HV w1 hb1).out.mono ?_); rintro e w2 ⟨rfl, hb2⟩))
  go_ret
  exact ⟨rfl, HB.out.1.trans ((hb1.trans (hb2.mono hb1.size)).mono HB.out.1.size)⟩
set_option maxRecDepth 100000 in
set_option maxHeartbeats 4000000 in
theorem replays_far (p : Pl) (v : PlV) (w : World) (h : PlAt w p v) (c0 : Int) (hc0 : VC p c0) (hz : c0 = 0) (hbu : 150 < p.bu) : Calls Tryz.prog 7 #[.agg #[.int .i64 p.ki, .slice v.pp p.np v.pc, .slice v.tp p.nq v.tc, .slice v.sp p.ns v.sc, .int .u64 p.sd, .int .u64 p.lk, .int .u64 p.en, .int .i64 p.bu, .int .i64 p.fu]] w fun e w' => e = .returned (.bool true) ∧ Below w.heap.size w w' := by
  subst hz
  obtain ⟨c0, hcc⟩ : ∃ c0 : Int, c0 = 0 := ⟨_, rfl⟩
  rw [← hcc] at hc0
  obtain ⟨wb, hwb⟩ : ∃ wb, w.alloc (.cells #[.int .i64 p.ki, .slice v.pp p.np v.pc, .slice v.tp p.nq v.tc, .slice v.sp p.ns v.sc, .int .u64 p.sd, .int .u64 p.lk, .int .u64 p.en, .int .i64 p.bu, .int .i64 p.fu] 27) = wb := ⟨_, rfl⟩
  obtain ⟨hb0, hbox, hsz⟩ := boxed _ _ _ hwb
  have HH : Hid (w.alloc (.cells #[.int .i64 p.ki, .slice v.pp p.np v.pc, .slice v.tp p.nq v.tc, .slice v.sp p.ns v.sc, .int .u64 p.sd, .int .u64 p.lk, .int .u64 p.en, .int .i64 p.bu, .int .i64 p.fu] 27) = wb) := hwb
  have HA := awake_any wb
  have HV : ∀ W, Below wb.heap.size wb W → Hid (Calls Tryz.prog 14 #[.agg #[.int .i64 p.ki, .slice v.pp p.np v.pc, .slice v.tp p.nq v.tc, .slice v.sp p.ns v.sc, .int .u64 p.sd, .int .u64 p.lk, .int .u64 p.en, .int .i64 p.bu, .int .i64 p.fu]] W fun e w' => e = .returned (.int .i64 c0) ∧ Below W.heap.size W w') := fun W hb => by
    refine (valid_any p v W ((h.below hb0).below hb)).mono ?_
    rintro e w' ⟨c, rfl, k1, k2⟩
    rw [k1.one hc0]
    exact ⟨rfl, k2⟩
  have KK : ∀ W, Below wb.heap.size wb W → Hid (W.cell? ⟨w.heap.size, 0, none⟩ = some (.int .i64 p.ki) ∧ W.cell? ⟨w.heap.size, 1, none⟩ = some (.slice v.pp p.np v.pc) ∧ W.cell? ⟨w.heap.size, 2, none⟩ = some (.slice v.tp p.nq v.tc) ∧ W.cell? ⟨w.heap.size, 3, none⟩ = some (.slice v.sp p.ns v.sc) ∧ W.cell? ⟨w.heap.size, 4, none⟩ = some (.int .u64 p.sd) ∧ W.cell? ⟨w.heap.size, 5, none⟩ = some (.int .u64 p.lk) ∧ W.cell? ⟨w.heap.size, 6, none⟩ = some (.int .u64 p.en) ∧ W.cell? ⟨w.heap.size, 7, none⟩ = some (.int .i64 p.bu) ∧ W.cell? ⟨w.heap.size, 8, none⟩ = some (.int .i64 p.fu)) := fun W hb => by
    have hx := (hb.block _ (lt_of_block hbox)).trans hbox
    exact ⟨cell_in hx rfl, cell_in hx rfl, cell_in hx rfl, cell_in hx rfl, cell_in hx rfl, cell_in hx rfl, cell_in hx rfl, cell_in hx rfl, cell_in hx rfl⟩
  have HB : Hid (Below w.heap.size w wb ∧ wb.heap[w.heap.size]? = some (.cells #[.int .i64 p.ki, .slice v.pp p.np v.pc, .slice v.tp p.nq v.tc, .slice v.sp p.ns v.sc, .int .u64 p.sd, .int .u64 p.lk, .int .u64 p.en, .int .i64 p.bu, .int .i64 p.fu] 27 (0, 0))) := ⟨hb0, hbox⟩
  subst hcc
  have d0 : decide (p.bu > 150) = true := decide_eq_true hbu
  have d1 : decide (150 < p.bu) = true := decide_eq_true hbu
  clear hwb hb0 hbox hsz h hc0 hbu
  go_enter Tryz.func7, Tryz.ntmps7
  go_wp2_with (first | (go_at_call 13; rw [HH.out]; (with_reducible refine HA.mono ?_); rintro e w1 ⟨rfl, hb1⟩; obtain ⟨f0, f1, f2, f3, f4, f5, f6, f7, f8⟩ := (KK w1 hb1).out) | (go_at_call 14; (with_reducible refine (HV w1 hb1).out.mono ?_); rintro e w2 ⟨rfl, hb2⟩; have hb2' : Below wb.heap.size wb w2 := hb1.trans (hb2.mono hb1.size); clear f0 f1 f2 f3 f4 f5 f6 f7 f8; obtain ⟨f0, f1, f2, f3, f4, f5, f6, f7, f8⟩ := (KK w2 hb2').out))
  go_ret
  exact ⟨rfl, HB.out.1.trans (hb2'.mono HB.out.1.size)⟩
set_option maxRecDepth 100000 in
set_option maxHeartbeats 16000000 in
attribute [-go_sem] run_eql_struct in
theorem replays_good (p : Pl) (v : PlV) (w : World) (h : PlAt w p v) (hr : RoomyL p) (hpl : PlOk p) (hbu : ¬ 150 < p.bu) : Calls Tryz.prog 7 #[.agg #[.int .i64 p.ki, .slice v.pp p.np v.pc, .slice v.tp p.nq v.tc, .slice v.sp p.ns v.sc, .int .u64 p.sd, .int .u64 p.lk, .int .u64 p.en, .int .i64 p.bu, .int .i64 p.fu]] w fun e w' => e = .returned (.bool true) ∧ Below w.heap.size w w' := by
  obtain ⟨c0, hcc⟩ : ∃ c0 : Int, c0 = 0 := ⟨_, rfl⟩
  have hc0 : VC p c0 := by rw [hcc]; exact okVC hpl
  obtain ⟨wb, hwb⟩ : ∃ wb, w.alloc (.cells #[.int .i64 p.ki, .slice v.pp p.np v.pc, .slice v.tp p.nq v.tc, .slice v.sp p.ns v.sc, .int .u64 p.sd, .int .u64 p.lk, .int .u64 p.en, .int .i64 p.bu, .int .i64 p.fu] 27) = wb := ⟨_, rfl⟩
  obtain ⟨hb0, hbox, hsz⟩ := boxed _ _ _ hwb
  have HH : Hid (w.alloc (.cells #[.int .i64 p.ki, .slice v.pp p.np v.pc, .slice v.tp p.nq v.tc, .slice v.sp p.ns v.sc, .int .u64 p.sd, .int .u64 p.lk, .int .u64 p.en, .int .i64 p.bu, .int .i64 p.fu] 27) = wb) := hwb
  have HA := awake_any wb
  have HV : ∀ W, Below wb.heap.size wb W → Hid (Calls Tryz.prog 14 #[.agg #[.int .i64 p.ki, .slice v.pp p.np v.pc, .slice v.tp p.nq v.tc, .slice v.sp p.ns v.sc, .int .u64 p.sd, .int .u64 p.lk, .int .u64 p.en, .int .i64 p.bu, .int .i64 p.fu]] W fun e w' => e = .returned (.int .i64 c0) ∧ Below W.heap.size W w') := fun W hb => by
    refine (valid_any p v W ((h.below hb0).below hb)).mono ?_
    rintro e w' ⟨c, rfl, k1, k2⟩
    rw [k1.one hc0]
    exact ⟨rfl, k2⟩
  have KK : ∀ W, Below wb.heap.size wb W → Hid (W.cell? ⟨w.heap.size, 0, none⟩ = some (.int .i64 p.ki) ∧ W.cell? ⟨w.heap.size, 1, none⟩ = some (.slice v.pp p.np v.pc) ∧ W.cell? ⟨w.heap.size, 2, none⟩ = some (.slice v.tp p.nq v.tc) ∧ W.cell? ⟨w.heap.size, 3, none⟩ = some (.slice v.sp p.ns v.sc) ∧ W.cell? ⟨w.heap.size, 4, none⟩ = some (.int .u64 p.sd) ∧ W.cell? ⟨w.heap.size, 5, none⟩ = some (.int .u64 p.lk) ∧ W.cell? ⟨w.heap.size, 6, none⟩ = some (.int .u64 p.en) ∧ W.cell? ⟨w.heap.size, 7, none⟩ = some (.int .i64 p.bu) ∧ W.cell? ⟨w.heap.size, 8, none⟩ = some (.int .i64 p.fu)) := fun W hb => by
    have hx := (hb.block _ (lt_of_block hbox)).trans hbox
    exact ⟨cell_in hx rfl, cell_in hx rfl, cell_in hx rfl, cell_in hx rfl, cell_in hx rfl, cell_in hx rfl, cell_in hx rfl, cell_in hx rfl, cell_in hx rfl⟩
  have HB : Hid (Below w.heap.size w wb ∧ wb.heap[w.heap.size]? = some (.cells #[.int .i64 p.ki, .slice v.pp p.np v.pc, .slice v.tp p.nq v.tc, .slice v.sp p.ns v.sc, .int .u64 p.sd, .int .u64 p.lk, .int .u64 p.en, .int .i64 p.bu, .int .i64 p.fu] 27 (0, 0))) := ⟨hb0, hbox⟩
  subst hcc
  have HR : ∀ W, Below wb.heap.size wb W → Hid (Calls Tryz.prog 15 #[.agg #[.int .i64 p.ki, .slice v.pp p.np v.pc, .slice v.tp p.nq v.tc, .slice v.sp p.ns v.sc, .int .u64 p.sd, .int .u64 p.lk, .int .u64 p.en, .int .i64 p.bu, .int .i64 p.fu]] W fun r w' => ∃ (C : Ab) (kd cd : Int) (x : Se) (q1 : Option Addr) (c1 : Nat) (CC : Nat → Sa) (q3 : Option Addr) (c3 : Nat), EndR p (fstA p) C ∧ AOk2 p C ∧ ResK p C kd cd x ∧ r = .returned (.agg #[.int .i64 kd, .int .i64 cd, .int .u64 x.t, .int .i64 x.s, .int .u64 x.q, .int .i64 0, .slice q1 p.nq c1, .slice q3 C.m c3]) ∧ (∃ b rb, W.heap.size < b ∧ RsA w' b rb p C q1 CC q3 c3) ∧ Below W.heap.size W w') := fun W hb => sqRun_good p v W ((h.below hb0).below hb) hr (okVC hpl) hpl
  have HT : ∀ W, Below wb.heap.size wb W → Hid (Calls Tryz.prog 21 #[.agg #[.int .i64 p.ki, .slice v.pp p.np v.pc, .slice v.tp p.nq v.tc, .slice v.sp p.ns v.sc, .int .u64 p.sd, .int .u64 p.lk, .int .u64 p.en, .int .i64 p.bu, .int .i64 p.fu]] W fun e w' => ∃ (q : Option Addr) (c : Nat), e = .returned (.slice q p.ns c) ∧ Own w' W.heap.size 39 6 (.slice q p.ns c) p.ns (seF (evS p.S)) ∧ Below W.heap.size W w') := fun W hb => there_any p v W ((h.below hb0).below hb) hpl.gt hpl.gs
  have HG : ∀ W, Below wb.heap.size wb W → Hid (Calls Tryz.prog 18 #[.agg #[.int .i64 p.ki, .slice v.pp p.np v.pc, .slice v.tp p.nq v.tc, .slice v.sp p.ns v.sc, .int .u64 p.sd, .int .u64 p.lk, .int .u64 p.en, .int .i64 p.bu, .int .i64 p.fu]] W fun e w' => ∃ (q : Option Addr) (c : Nat) (A : Nat → Sa), e = .returned (.slice q p.nq c) ∧ Own w' W.heap.size 46 3 (.slice q p.nq c) p.nq (saF A) ∧ (∀ j, j < p.nq → (A j).n = p.nw j ∧ (A j).d = dz p.sd j ∧ (A j).s = (cntS p.S p.ns (j : Int) : Nat) ∧ KAt w' (A j).p (p.nw j) (p.K j) ∧ EA w' (.slice q p.nq c) W.heap.size (A j).p ∧ (A j).p ≠ none) ∧ Below W.heap.size W w') := fun W hb => begun_any p v W ((h.below hb0).below hb) hr hpl.gt hpl.gs
  have HPL : Hid (PlAt w p v ∧ RoomyL p ∧ PlOk p) := ⟨h, hr, hpl⟩
  have hnq := hpl.gt.1
  have hns := hpl.gs.1
  have d0 : decide (p.bu > 150) = false := decide_eq_false hbu
  have d1 : decide (150 < p.bu) = false := decide_eq_false hbu
  clear hwb hb0 hbox hsz h hr hpl hc0 hbu
  go_enter Tryz.func7, Tryz.ntmps7
  go_upto_region 6 with (first | (go_at_call 13; rw [HH.out]; (with_reducible refine HA.mono ?_); rintro e w1 ⟨rfl, hb1⟩; obtain ⟨f0, f1, f2, f3, f4, f5, f6, f7, f8⟩ := (KK w1 hb1).out) | (go_at_call 14; (with_reducible refine (HV w1 hb1).out.mono ?_); rintro e w2 ⟨rfl, hb2'⟩; have hb2 : Below wb.heap.size wb w2 := hb1.trans (hb2'.mono hb1.size); clear f0 f1 f2 f3 f4 f5 f6 f7 f8; obtain ⟨f0, f1, f2, f3, f4, f5, f6, f7, f8⟩ := (KK w2 hb2).out) | (go_at_call 15; (with_reducible refine (HR w2 hb2).out.mono ?_); rintro e w3 ⟨C, kd, cd, x, q1, c1, CC, q3, c3, he1, ho1, hk1, rfl, ⟨b, rb, hlb, hrs⟩, hb3'⟩; have hb3 : Below wb.heap.size wb w3 := hb2.trans (hb3'.mono hb2.size); clear f0 f1 f2 f3 f4 f5 f6 f7 f8))
  obtain ⟨w4, hw4⟩ : ∃ w4, w3.alloc (.cells #[.int .i64 kd, .int .i64 cd, .int .u64 x.t, .int .i64 x.s, .int .u64 x.q, .int .i64 0, .slice q1 p.nq c1, .slice q3 C.m c3] 36) = w4 := ⟨_, rfl⟩
  obtain ⟨hb4', hx4, hsz4⟩ := boxed _ _ _ hw4
  rw [hw4]
  obtain ⟨g4, hg4⟩ : ∃ g4, w3.heap.size = g4 := ⟨_, rfl⟩
  rw [hg4] at hx4 ⊢
  have hb4 : Below wb.heap.size wb w4 := hb3.trans (hb4'.mono hb3.size)
  have H4 : Hid (EndR p (fstA p) C ∧ w4.heap[g4]? = some (.cells #[.int .i64 kd, .int .i64 cd, .int .u64 x.t, .int .i64 x.s, .int .u64 x.q, .int .i64 0, .slice q1 p.nq c1, .slice q3 C.m c3] 36 (0, 0)) ∧ SIn w4 q3 C.m C.Z ∧ (C.m : Int) ≤ 4096 ∧ g4 < w4.heap.size ∧ Below wb.heap.size wb w4 ∧ SsAt w4 q1 p.nq CC C.K ∧ (∀ j, j < p.nq → (CC j).n = p.nw j ∧ (CC j).d = C.d j ∧ (CC j).s = C.s j) ∧ ResK p C kd cd x) := ⟨he1, hx4, hrs.tr.below hb4', ho1.m, lt_of_block hx4, hb4, hrs.ss.below hb4', hrs.eq, hk1⟩
  obtain ⟨f0, f1, f2, f3, f4, f5, f6, f7, f8⟩ := (KK w4 hb4).out
  clear hw4 hb4' hx4 hsz4 hg4 hrs hlb he1 hk1 ho1 hb3' hb3 hb2 hb2' hb1 HA HV HR d0 d1
  go_upto_region 7 with (go_at_call 18; (with_reducible refine (HG w4 hb4).out.mono ?_); rintro e w5 ⟨sq, sc, A0, rfl, hrow, hA, hb5'⟩)
  have hb5 : Below wb.heap.size wb w5 := hb4.trans (hb5'.mono hb4.size)
  clear f0 f1 f2 f3 f4 f5 f6 f7 f8
  obtain ⟨f0, f1, f2, f3, f4, f5, f6, f7, f8⟩ := (KK w5 hb5).out
  go_upto_region 8 with (first | (go_at_call 21; (with_reducible refine (HT w5 hb5).out.mono ?_); rintro e wt ⟨fq, fc, rfl, hfr, hbt'⟩) | (go_at_call 29; refine (order_any fq p.ns fc (evS p.S) (by omega) wt (own_sin0 hfr)).mono ?_; rintro e w6 ⟨gl0, d, rfl, hrow6, hstb, hsrt, hb6'⟩))
  clear f0 f1 f2 f3 f4 f5 f6 f7 f8
  have hb56 : Below w5.heap.size w5 w6 := hbt'.trans (hb6'.mono hbt'.size)
  have hb46 : Below w4.heap.size w4 w6 := hb5'.trans (hb56.mono hb5'.size)
  have hb6 : Below wb.heap.size wb w6 := hb4.trans (hb46.mono hb4.size)
  obtain ⟨z1, z2, z3, z4, z5, z6, z7, z8, z9⟩ := H4.out
  have hzb := hb4.size
  have H6 : Hid (EndR p (fstA p) C ∧ (w6.heap[g4]? = some (.cells #[.int .i64 kd, .int .i64 cd, .int .u64 x.t, .int .i64 x.s, .int .u64 x.q, .int .i64 0, .slice q1 p.nq c1, .slice q3 C.m c3] 36 (0, 0)) ∧ g4 < w4.heap.size) ∧ SIn w6 q3 C.m C.Z ∧ (C.m : Int) ≤ 4096 ∧ (w6.heap[w.heap.size]? = some (.cells #[.int .i64 p.ki, .slice v.pp p.np v.pc, .slice v.tp p.nq v.tc, .slice v.sp p.ns v.sc, .int .u64 p.sd, .int .u64 p.lk, .int .u64 p.en, .int .i64 p.bu, .int .i64 p.fu] 27 (0, 0)) ∧ w.heap.size < w4.heap.size) ∧ Below w.heap.size w w6 ∧ (∀ g o, q3 = some ⟨g, o, none⟩ → 0 < C.m → g < w4.heap.size) ∧ ResK p C kd cd x) := ⟨z1, ⟨(hb46.block _ z5).trans z2, z5⟩, z3.below hb46, z4, ⟨(hb6.block _ (lt_of_block HB.out.2)).trans HB.out.2, Nat.lt_of_lt_of_le (lt_of_block HB.out.2) hzb⟩, HB.out.1.trans (hb6.mono HB.out.1.size), fun g o e hn => by
    rcases z3 with h9 | ⟨b, o', e', hl, _⟩
    · omega
    · rw [e'] at e; injection e with e; injection e with e1 e2 e3; omega, z9⟩
  have HSS : Hid (SsAt w6 q1 p.nq CC C.K ∧ (∀ j, j < p.nq → (CC j).n = p.nw j ∧ (CC j).d = C.d j ∧ (CC j).s = C.s j) ∧ SsAt w4 q1 p.nq CC C.K) := ⟨z7.below hb46, z8, z7⟩
  have H7 : Hid (Own w6 w4.heap.size 46 3 (.slice sq p.nq sc) p.nq (saF A0) ∧ (∀ j, j < p.nq → (A0 j).n = p.nw j ∧ (A0 j).d = dz p.sd j ∧ (A0 j).s = (cntS p.S p.ns (j : Int) : Nat) ∧ KAt w6 (A0 j).p (p.nw j) (p.K j) ∧ EA w6 (.slice sq p.nq sc) w4.heap.size (A0 j).p ∧ (A0 j).p ≠ none) ∧ w4.heap.size ≤ w6.heap.size) := ⟨Own.later hrow hb56, fun j hj => (have h9 := hA j hj; ⟨h9.1, h9.2.1, h9.2.2.1, h9.2.2.2.1.below hb56, fun g o e => ⟨(h9.2.2.2.2.1 g o e).1, Nat.lt_of_lt_of_le (h9.2.2.2.2.1 g o e).2.1 hb56.size, (h9.2.2.2.2.1 g o e).2.2⟩, h9.2.2.2.2.2⟩), hb46.size⟩
  have hgl0 := (Own.lt hrow6 gl0 rfl).1
  have H8 : Hid (SIn w6 (some ⟨gl0, 0, none⟩) p.ns d ∧ some gl0 ≠ (Value.slice sq p.nq sc).ownBlock ∧ Pnd (fstA p) p.ns d) := ⟨own_sin0 hrow6, fun e => by have := (Own.lt hrow gl0 e.symm).2; have := hbt'.size; omega, Pnd.fst hstb hsrt⟩
  clear z1 z2 z3 z4 z5 z6 z7 z8 z9 hb6' hb6 hb5 hb5' hb46 hb56 hbt' hfr hrow hA hrow6 hstb hsrt hgl0 hzb hb4 HG HT H4 KK HB HH
  go_wp2_with fail
  go_loopw [5, 6] (fun v5 v6 wr => ∃ (i : Nat) (B : Nat → Sa) (n : Nat) (X : Nat → Se) (gl : Nat) (A : Ab), v6 = .int .i64 (i : Int) ∧ v5 = .slice (some ⟨gl, 0, none⟩) n n ∧ i ≤ C.m ∧ (SIn wr (some ⟨gl, 0, none⟩) n X ∧ some gl ≠ (Value.slice sq p.nq sc).ownBlock ∧ StepsR p (fstA p) i A ∧ Pnd A n X ∧ n ≤ 256 + 16 * i) ∧ Own wr w4.heap.size 46 3 (.slice sq p.nq sc) p.nq (saF B) ∧ (∀ j, j < p.nq → (B j).n = p.nw j ∧ (B j).d = (stP p C.Z j i).2.1 ∧ (B j).s = (stP p C.Z j i).2.2 ∧ KAt wr (B j).p (p.nw j) (stP p C.Z j i).1 ∧ ((B j).p = none → p.nw j = 0 ∧ True) ∧ ∀ g o, (B j).p = some ⟨g, o, none⟩ → some g ≠ (Value.slice sq p.nq sc).ownBlock ∧ g < wr.heap.size) ∧ Kb (fun k => some k = (Value.slice sq p.nq sc).ownBlock) w6 wr ∧ Below w4.heap.size w6 wr) (fun _ v6 _ => C.m - (intOf v6).toNat)
  case atStart =>
    refine ⟨0, A0, p.ns, d, gl0, fstA p, rfl, rfl, Nat.zero_le _, ⟨H8.out.1, H8.out.2.1, .zero, H8.out.2.2, by omega⟩, H7.out.1, fun j hj => ?_, ⟨Nat.le_refl _, fun _ _ _ => rfl⟩, Below.refl _ _⟩
    obtain ⟨a1, a2, a3, a4, a5, a6⟩ := H7.out.2.1 j hj
    exact ⟨a1, a2, a3, a4, fun e => absurd e a6, fun g o e => ⟨(a5 g o e).2.2, (a5 g o e).2.1⟩⟩
  case round =>
    obtain ⟨i, B, n, X, gl, A, rfl, rfl, hi, ⟨hleft, hglb, hsteps, hpnd, hnb⟩, hrow, hst, hkb, hbr⟩ := hrel
    have m63 : (C.m : Int) ≤ 4096 := H6.out.2.2.2.1
    have hgq : ∀ g, g < w4.heap.size → ¬ (some g = (Value.slice sq p.nq sc).ownBlock) := fun g hg e => by have := (Own.lt H7.out.1 g e.symm).1; omega
    have hxp := (hkb.block w.heap.size (lt_of_block H6.out.2.2.2.2.1.1) (hgq _ H6.out.2.2.2.2.1.2)).trans H6.out.2.2.2.2.1.1
    have hxr := (hkb.block g4 (lt_of_block H6.out.2.1.1) (hgq _ H6.out.2.1.2)).trans H6.out.2.1.1
    have a7 : wr.cell? ⟨g4, 7, none⟩ = some (.slice q3 C.m c3) := cell_in hxr rfl
    have hT := H6.out.2.2.1.kb0 hkb (fun g o e hn => hgq g (H6.out.2.2.2.2.2.2.1 g o e hn))
    have hbw : Below w.heap.size w wr := H6.out.2.2.2.2.2.1.trans (hbr.mono (by have := H6.out.2.2.2.2.1.2; omega))
    have haok := steps_ok HPL.out.2.2 (fst_ok HPL.out.2.2) hsteps
    by_cases hlm : i < C.m
    case pos =>
      have dl1 : decide ((i : Int) < (C.m : Int)) = true := decide_eq_true (by omega)
      have dl2 : decide (i < C.m) = true := decide_eq_true hlm
      have i0 : (0 : Int) ≤ (i : Int) := by omega
      have i1 : (i : Int) < (C.m : Int) := by omega
      have ei : IntKind.i64.wrap ((i : Int) + 1) = (i : Int) + 1 := by rw [IntKind.wrap_i64]; omega
      have HMi := meas hlm
      have hat := H6.out.1.atE HPL.out.2.2 hlm
      have hca := H6.out.1.cause HPL.out.2.2 hlm
      obtain ⟨BB, hBB, hZZ, _⟩ := H6.out.1.steps
      obtain ⟨A9, k1, k2, k3, k4, k5, k6, k7, k8⟩ := hBB.at HPL.out.2.2 hlm
      obtain rfl := hsteps.one k1
      rw [← hZZ] at k6 k8
      obtain ⟨hn0, hX0⟩ := hpnd.least haok k6
      obtain ⟨dn, hdn⟩ : ∃ dn, (C.Z i).d.toNat = dn := ⟨_, rfl⟩
      have hd0 : (C.Z i).d = (dn : Int) := by have := hat.dn.2; omega
      have hdq : dn < p.nq := by have := hat.dn.1; omega
      obtain hz | ⟨bq, oq, hq3, hlq, hcq⟩ := hT
      · omega
      obtain ⟨y0, y1, y2, y3, y4, y5⟩ := SIn.six hcq hlm
      obtain hz | ⟨gl', ol, hgle, hll, hcl⟩ := hleft
      · omega
      obtain ⟨rfl, rfl⟩ : gl = gl' ∧ ol = 0 := by injection hgle with e; injection e with e1 e2 e3; exact ⟨e1, e2.symm⟩
      have x0' := SIn.six hcl hn0
      rw [hX0] at x0'
      simp only [Nat.zero_mul, Nat.add_zero, Nat.zero_add] at x0'
      obtain ⟨x0, x1, x2, x3, x4, x5⟩ := x0'
      rw [hd0] at y3 x3
      have HLC : Hid (∀ j, j < n * 6 → wr.cell? ⟨gl, 0 + j, none⟩ = some (seF X j)) := hcl
      obtain ⟨gst, hsq⟩ : ∃ gst, sq = some ⟨gst, 0, none⟩ := by
        rcases Own.form H7.out.1 with ⟨_, h2⟩ | ⟨g', c', h1, h2, h3⟩
        · omega
        · injection h1 with e1 e2 e3
          exact ⟨g', e1⟩
      subst hsq
      have HI : Hid ((SIn wr (some ⟨gl, 0, none⟩) n X ∧ some gl ≠ (Value.slice (some ⟨gst, 0, none⟩) p.nq sc).ownBlock ∧ StepsR p (fstA p) i A ∧ Pnd A n X ∧ n ≤ 256 + 16 * i) ∧ Own wr w4.heap.size 46 3 (.slice (some ⟨gst, 0, none⟩) p.nq sc) p.nq (saF B) ∧ (∀ j, j < p.nq → (B j).n = p.nw j ∧ (B j).d = (stP p C.Z j i).2.1 ∧ (B j).s = (stP p C.Z j i).2.2 ∧ KAt wr (B j).p (p.nw j) (stP p C.Z j i).1 ∧ ((B j).p = none → p.nw j = 0 ∧ True) ∧ ∀ g o, (B j).p = some ⟨g, o, none⟩ → some g ≠ (Value.slice (some ⟨gst, 0, none⟩) p.nq sc).ownBlock ∧ g < wr.heap.size) ∧ Kb (fun k => some k = (Value.slice (some ⟨gst, 0, none⟩) p.nq sc).ownBlock) w6 wr ∧ Below w4.heap.size w6 wr) := ⟨⟨.inr ⟨gl, 0, rfl, hll, hcl⟩, hglb, hsteps, hpnd, hnb⟩, hrow, hst, hkb, hbr⟩
      have HNX : Hid (0 < n ∧ X 0 = C.Z i ∧ StepsR p (fstA p) (i + 1) (nextA p A (C.Z i)) ∧ AOk2 p A ∧ gl < wr.heap.size) := ⟨hn0, hX0, k8, haok, hll⟩
      have HCA : Hid (Cause p C i ∧ AtE p C i) := ⟨hca, hat⟩
      have HX : Hid (wr.heap[w.heap.size]? = some (.cells #[.int .i64 p.ki, .slice v.pp p.np v.pc, .slice v.tp p.nq v.tc, .slice v.sp p.ns v.sc, .int .u64 p.sd, .int .u64 p.lk, .int .u64 p.en, .int .i64 p.bu, .int .i64 p.fu] 27 (0, 0)) ∧ wr.heap[g4]? = some (.cells #[.int .i64 kd, .int .i64 cd, .int .u64 x.t, .int .i64 x.s, .int .u64 x.q, .int .i64 0, .slice q1 p.nq c1, .slice q3 C.m c3] 36 (0, 0)) ∧ Below w.heap.size w wr ∧ (C.Z i).d = (dn : Int) ∧ (C.Z i).d.toNat = dn) := ⟨hxp, hxr, hbw, hd0, hdn⟩
      have f6 : wr.cell? ⟨w.heap.size, 6, none⟩ = some (.int .u64 p.en) := cell_in hxp rfl
      rw [hq3] at a7
      have q0 : ((n : Int) == 0) = false := by simp; omega
      have q0' : (n == 0) = false := by simp; omega
      have n0 : (0 : Int) < (n : Int) := by omega
      have q1 : decide ((C.Z i).t ≥ p.en) = false := decide_eq_false (by have := hca.en; omega)
      have q2 : decide (p.en ≤ (C.Z i).t) = false := decide_eq_false (by have := hca.en; omega)
      have ne1 : ∀ W, (binOp .neq 39 (.agg #[.int .u64 (C.Z i).t, .int .i64 (C.Z i).s, .int .u64 (C.Z i).q, .int .i64 (dn : Int), .int .i64 (C.Z i).k, .int .i64 (C.Z i).v]) (.agg #[.int .u64 (C.Z i).t, .int .i64 (C.Z i).s, .int .u64 (C.Z i).q, .int .i64 (dn : Int), .int .i64 (C.Z i).k, .int .i64 (C.Z i).v])).run Tryz.prog W = .ok (.bool false) W := fun W => neq_seV (C.Z i).t (C.Z i).s (C.Z i).q (dn : Int) (C.Z i).k (C.Z i).v W
      clear hglb hsteps hpnd hrow hst hkb hbr hxp hxr hbw hcq hlq hq3 hca hat hdn hd0 hgq hll hcl hX0 hn0 k1 k2 k3 k4 k5 k6 k7 k8 hBB hZZ haok hgle
      go_upto_region 11 with fail
      go_cut [57] from 34 to 57 (fun b wx => b = .bool false ∧ Below wr.heap.size wr wx)
      case first =>
        go_quiet (fail)
        go_wp2_with fail
        go_meet
        exact ⟨rfl, below_drewNq _ _ _⟩
      case rest =>
        obtain ⟨rfl, hb11⟩ := hcut
        obtain ⟨wd, rfl⟩ : ∃ wd, wd = wc := ⟨_, rfl⟩
        have hxld : ∀ j, j < n * 6 → wd.cell? ⟨gl, 0 + j, none⟩ = some (seF X j) := fun j hj => (cell_below (a := ⟨gl, 0 + j, none⟩) hb11 HNX.out.2.2.2.2).trans (HLC.out j hj)
        clear x0 x1 x2 x3 x4 x5 y0 y1 y2 y3 y4 y5 f6 a7
        have x0' := SIn.six hxld HNX.out.1
        rw [HNX.out.2.1] at x0'
        simp only [Nat.zero_mul, Nat.add_zero, Nat.zero_add] at x0'
        obtain ⟨x0, x1, x2, x3, x4, x5⟩ := x0'
        rw [HX.out.2.2.2.1] at x3
        obtain ⟨wq, hwq⟩ : ∃ wq, wd.alloc (.cells #[.int .u64 (C.Z i).t, .int .i64 (C.Z i).s, .int .u64 (C.Z i).q, .int .i64 (dn : Int), .int .i64 (C.Z i).k, .int .i64 (C.Z i).v] 39) = wq := ⟨_, rfl⟩
        obtain ⟨hbq', hxq, hszq⟩ := boxed _ _ _ hwq
        have HWQ : Hid (wd.alloc (.cells #[.int .u64 (C.Z i).t, .int .i64 (C.Z i).s, .int .u64 (C.Z i).q, .int .i64 (dn : Int), .int .i64 (C.Z i).k, .int .i64 (C.Z i).v] 39) = wq) := hwq
        obtain ⟨g8, hg8⟩ : ∃ g8, wd.heap.size = g8 := ⟨_, rfl⟩
        have HG8 : Hid (wd.heap.size = g8) := hg8
        rw [hg8] at hxq
        have hbrq : Below wr.heap.size wr wq := hb11.trans (hbq'.mono hb11.size)
        have HQ : Hid (Below wr.heap.size wr wq ∧ wr.heap.size ≤ g8 ∧ wq.heap[g8]? = some (.cells #[.int .u64 (C.Z i).t, .int .i64 (C.Z i).s, .int .u64 (C.Z i).q, .int .i64 (dn : Int), .int .i64 (C.Z i).k, .int .i64 (C.Z i).v] 39 (0, 0)) ∧ g8 < wq.heap.size) := ⟨hbrq, by have := hb11.size; omega, hxq, lt_of_block hxq⟩
        obtain ⟨_, i2, i3, i4, i5⟩ := HI.out
        obtain ⟨s1, s2, s3, s4, s5, s6⟩ := i3 dn hdq
        have hat := HCA.out.2
        have hdn := HX.out.2.2.2.2
        have hd0 := HX.out.2.2.2.1
        obtain ⟨E, hE⟩ : ∃ E, efN p C.Z i = E := ⟨_, rfl⟩
        have hpr := hat.pr
        have hokc := hat.ok
        have ha64 := hat.a64
        have hwd := hat.wd
        have hdc := hat.dc
        have hsn := hat.sn
        have heo := hat.eo
        have hcode := hat.code
        have hpg : pgA p (C.Z i) = p.P (p.pr dn).toNat := by unfold pgA; rw [hdn]
        have hE1 : efS p (C.Z i) (stP p C.Z (C.Z i).d.toNat i) = E := hE
        rw [hE1] at heo hcode
        rw [hdn] at hpr hwd hdc hsn heo
        rw [hpg] at ha64 heo
        obtain ⟨pn, hpn⟩ : ∃ pn : Nat, p.pr dn = (pn : Int) := ⟨(p.pr dn).toNat, by omega⟩
        have hpn2 : (p.pr dn).toNat = pn := by omega
        rw [hpn2] at ha64 heo hpr hpg
        have hE2 : effP (p.P pn) (clA p (C.Z i)) (p.nw dn) (stP p C.Z dn i).1 (stP p C.Z dn i).2.1 (stP p C.Z dn i).2.2 = E := by
          rw [← hE1]
          unfold efS
          rw [hpg, hdn]
        have HRUN : ∀ W, Below wq.heap.size wq W → Hid (Calls Tryz.prog 19 #[.agg #[.int .i64 p.ki, .slice v.pp p.np v.pc, .slice v.tp p.nq v.tc, .slice v.sp p.ns v.sc, .int .u64 p.sd, .int .u64 p.lk, .int .u64 p.en, .int .i64 p.bu, .int .i64 p.fu], .agg #[.int .u64 (C.Z i).t, .int .i64 (C.Z i).s, .int .u64 (C.Z i).q, .int .i64 (dn : Int), .int .i64 (C.Z i).k, .int .i64 (C.Z i).v], .agg #[.slice (B dn).p (p.nw dn) (B dn).c, .int .u64 (stP p C.Z dn i).2.1, .int .u64 (stP p C.Z dn i).2.2]] W fun r w' => ∃ (wp : Option Addr) (wc : Nat) (ou : Option Addr) (oc : Nat), r = .returned (.agg #[.int .i64 E.code, .slice wp E.nw wc, .int .u64 E.dice, .int .u64 E.sent, .slice ou E.on oc, .int .i64 E.used]) ∧ Own w' W.heap.size 2 1 (.slice wp E.nw wc) E.nw (iv E.wd) ∧ Own w' W.heap.size 39 6 (.slice ou E.on oc) E.on E.oF ∧ Below W.heap.size W w') := fun W hb => by
          have hbW : Below wr.heap.size wr W := hbrq.trans (hb.mono hbrq.size)
          have hb9' : Below w.heap.size w W := HX.out.2.2.1.trans (hbW.mono HX.out.2.2.1.size)
          exact hrun_any p v W (HPL.out.1.below hb9') (C.Z i) dn pn hd0 hdq hpn hpr.1 (B dn).p (p.nw dn) (B dn).c (stP p C.Z dn i).1 (stP p C.Z dn i).2.1 (stP p C.Z dn i).2.2 ⟨s4.below hbW, s5, HPL.out.2.1.nw dn hdq, hokc, hwd, hdc, hsn⟩ ha64 E hE2
        have hrq : ARow wq w4.heap.size gst p.nq sc B := Own.later i2 hbrq
        have KS : ∀ W, Below wq.heap.size wq W → ((W.cell? ⟨w.heap.size, 0, none⟩ = some (.int .i64 p.ki) ∧ W.cell? ⟨w.heap.size, 1, none⟩ = some (.slice v.pp p.np v.pc) ∧ W.cell? ⟨w.heap.size, 2, none⟩ = some (.slice v.tp p.nq v.tc) ∧ W.cell? ⟨w.heap.size, 3, none⟩ = some (.slice v.sp p.ns v.sc) ∧ W.cell? ⟨w.heap.size, 4, none⟩ = some (.int .u64 p.sd) ∧ W.cell? ⟨w.heap.size, 5, none⟩ = some (.int .u64 p.lk) ∧ W.cell? ⟨w.heap.size, 6, none⟩ = some (.int .u64 p.en) ∧ W.cell? ⟨w.heap.size, 7, none⟩ = some (.int .i64 p.bu) ∧ W.cell? ⟨w.heap.size, 8, none⟩ = some (.int .i64 p.fu)) ∧ (W.cell? ⟨g8, 0, none⟩ = some (.int .u64 (C.Z i).t) ∧ W.cell? ⟨g8, 1, none⟩ = some (.int .i64 (C.Z i).s) ∧ W.cell? ⟨g8, 2, none⟩ = some (.int .u64 (C.Z i).q) ∧ W.cell? ⟨g8, 3, none⟩ = some (.int .i64 (dn : Int)) ∧ W.cell? ⟨g8, 4, none⟩ = some (.int .i64 (C.Z i).k) ∧ W.cell? ⟨g8, 5, none⟩ = some (.int .i64 (C.Z i).v)) ∧ W.cell? ⟨gst, dn * 3, none⟩ = some (.slice (B dn).p (p.nw dn) (B dn).c) ∧ W.cell? ⟨gst, dn * 3 + 1, none⟩ = some (.int .u64 (stP p C.Z dn i).2.1) ∧ W.cell? ⟨gst, dn * 3 + 2, none⟩ = some (.int .u64 (stP p C.Z dn i).2.2)) := fun W hb => by
          have hbW : Below wr.heap.size wr W := hbrq.trans (hb.mono hbrq.size)
          have e1 := (hbW.block _ (lt_of_block HX.out.1)).trans HX.out.1
          have e3 := (hb.block _ HQ.out.2.2.2).trans HQ.out.2.2.1
          obtain ⟨t0, t1, t2⟩ := ARow.cells (Own.later hrq hb) hdq
          rw [s1] at t0
          rw [s2] at t1
          rw [s3] at t2
          exact ⟨⟨cell_in e1 rfl, cell_in e1 rfl, cell_in e1 rfl, cell_in e1 rfl, cell_in e1 rfl, cell_in e1 rfl, cell_in e1 rfl, cell_in e1 rfl, cell_in e1 rfl⟩, ⟨cell_in e3 rfl, cell_in e3 rfl, cell_in e3 rfl, cell_in e3 rfl, cell_in e3 rfl, cell_in e3 rfl⟩, t0, t1, t2⟩
        have j0 : (0 : Int) ≤ (dn : Int) := by omega
        have j1 : (dn : Int) < (p.nq : Int) := by omega
        have HEO : Hid (E.nw = p.nw dn ∧ efN p C.Z i = E ∧ EOk (p.P pn) (clA p (C.Z i)) (stP p C.Z dn i).2.2 (p.nw dn) E) := ⟨heo.nw, hE, heo⟩
        have ec : (E.code != 0) = false := by simpa using hcode
        clear hat hokc ha64 hwd hdc hsn heo hpg hpr hE hE1 hE2 hpn hpn2 hdn hd0 hb11 hbrq hbq' hxq hszq hwq hg8 i2 i3 i4 i5 s1 s2 s3 s4 s5 s6 hrq hcode hxld
        obtain ⟨iF, hF1, hF2, hF3, hF4⟩ := sinfo infoEF
        have hbdq : Below wq.heap.size wq wq.drew := (Below.refl _ wq).drew
        go_upto_region 14 with fail
        rw [HWQ.out, HG8.out]
        clear x0 x1 x2 x3 x4 x5
        go_cut [8] from 61 to 68 (fun x8 wx => ∃ (fb : Nat) (wp : Option Addr) (wc : Nat) (ou : Option Addr) (oc bw : Nat), x8 = .pointer (some ⟨fb, 0, none⟩) ∧ wx.heap[fb]? = some (.cells #[.int .i64 E.code, .slice wp E.nw wc, .int .u64 E.dice, .int .u64 E.sent, .slice ou E.on oc, .int .i64 E.used] 48 (0, 0)) ∧ Own wx bw 2 1 (.slice wp E.nw wc) E.nw (iv E.wd) ∧ Own wx bw 39 6 (.slice ou E.on oc) E.on E.oF ∧ Below wq.heap.size wq wx ∧ wq.heap.size ≤ bw ∧ wq.heap.size ≤ fb)
        case first =>
          refine wp_region_held_drew (S := fun W9 => Below wq.heap.size wq W9) (by kernel_rfl) hbdq (fun hHeld => ?_)
          have hS0 : Below wq.heap.size wq wq.drew := hHeld
          refine wpAnyH_take (i := 0) (v := ?hv0a) rfl (by kernel_rfl) (by kernel_rfl) (by kernel_rfl) (fun _ _ _ h => h) (Or.inl ⟨by rfl, ?hy0a⟩) (by assumption) ?hr0a
          case hy0a => ((intro W9 hSw; obtain ⟨⟨f0, f1, f2, f3, f4, f5, f6, f7, f8⟩, ⟨y0, y1, y2, y3, y4, y5⟩, b0, b1, b2⟩ := KS W9 hSw; go_simp); try with_reducible rfl)
          simp only [List.getElem_toArray, List.getElem_cons_zero, List.getElem_cons_succ, Act.put, List.setIfInBounds_toArray, List.set_cons_zero, List.set_cons_succ]
          refine wpAnyH_take (i := 1) (v := ?hv1a) rfl (by kernel_rfl) (by kernel_rfl) (by kernel_rfl) (fun _ _ _ h => h) (Or.inl ⟨by rfl, ?hy1a⟩) (by assumption) ?hr1a
          case hy1a => ((intro W9 hSw; obtain ⟨⟨f0, f1, f2, f3, f4, f5, f6, f7, f8⟩, ⟨y0, y1, y2, y3, y4, y5⟩, b0, b1, b2⟩ := KS W9 hSw; go_simp); try with_reducible rfl)
          simp only [List.getElem_toArray, List.getElem_cons_zero, List.getElem_cons_succ, Act.put, List.setIfInBounds_toArray, List.set_cons_zero, List.set_cons_succ]
          refine wpAnyH_take (i := 2) (v := ?hv2a) rfl (by kernel_rfl) (by kernel_rfl) (by kernel_rfl) (fun _ _ _ h => h) (Or.inl ⟨by rfl, ?hy2a⟩) (by assumption) ?hr2a
          case hy2a => ((intro W9 hSw; obtain ⟨⟨f0, f1, f2, f3, f4, f5, f6, f7, f8⟩, ⟨y0, y1, y2, y3, y4, y5⟩, b0, b1, b2⟩ := KS W9 hSw; go_simp); try with_reducible rfl)
          simp only [List.getElem_toArray, List.getElem_cons_zero, List.getElem_cons_succ, Act.put, List.setIfInBounds_toArray, List.set_cons_zero, List.set_cons_succ]
          refine wpAnyH_take (i := 3) (v := ?hv3a) rfl (by kernel_rfl) (by kernel_rfl) (by kernel_rfl) (fun _ _ _ h => h) (Or.inl ⟨by rfl, ?hy3a⟩) (by assumption) ?hr3a
          case hy3a => ((intro W9 hSw; obtain ⟨⟨f0, f1, f2, f3, f4, f5, f6, f7, f8⟩, ⟨y0, y1, y2, y3, y4, y5⟩, b0, b1, b2⟩ := KS W9 hSw; go_simp); try with_reducible rfl)
          simp only [List.getElem_toArray, List.getElem_cons_zero, List.getElem_cons_succ, Act.put, List.setIfInBounds_toArray, List.set_cons_zero, List.set_cons_succ]
          refine wpAnyH_take (i := 4) (v := ?hv4a) rfl (by kernel_rfl) (by kernel_rfl) (by kernel_rfl) (fun _ _ _ h => h) (Or.inl ⟨by rfl, ?hy4a⟩) (by assumption) ?hr4a
          case hy4a => ((intro W9 hSw; obtain ⟨⟨f0, f1, f2, f3, f4, f5, f6, f7, f8⟩, ⟨y0, y1, y2, y3, y4, y5⟩, b0, b1, b2⟩ := KS W9 hSw; go_simp); try with_reducible rfl)
          simp only [List.getElem_toArray, List.getElem_cons_zero, List.getElem_cons_succ, Act.put, List.setIfInBounds_toArray, List.set_cons_zero, List.set_cons_succ]
          refine wpAnyH_take (i := 5) (v := ?hv5a) rfl (by kernel_rfl) (by kernel_rfl) (by kernel_rfl) (fun _ _ _ h => h) (Or.inl ⟨by rfl, ?hy5a⟩) (by assumption) ?hr5a
          case hy5a => ((intro W9 hSw; obtain ⟨⟨f0, f1, f2, f3, f4, f5, f6, f7, f8⟩, ⟨y0, y1, y2, y3, y4, y5⟩, b0, b1, b2⟩ := KS W9 hSw; go_simp); try with_reducible rfl)
          simp only [List.getElem_toArray, List.getElem_cons_zero, List.getElem_cons_succ, Act.put, List.setIfInBounds_toArray, List.set_cons_zero, List.set_cons_succ]
          refine wpAnyH_take (i := 6) (v := ?hv6a) rfl (by kernel_rfl) (by kernel_rfl) (by kernel_rfl) (fun _ _ _ h => h) (Or.inl ⟨by rfl, ?hy6a⟩) (by assumption) ?hr6a
          case hy6a => ((intro W9 hSw; obtain ⟨⟨f0, f1, f2, f3, f4, f5, f6, f7, f8⟩, ⟨y0, y1, y2, y3, y4, y5⟩, b0, b1, b2⟩ := KS W9 hSw; go_simp); try with_reducible rfl)
          simp only [List.getElem_toArray, List.getElem_cons_zero, List.getElem_cons_succ, Act.put, List.setIfInBounds_toArray, List.set_cons_zero, List.set_cons_succ]
          refine wpAnyH_ready (rs := [7, 8]) (by kernel_rfl) (by simp) (AllReadyH.cons rfl (fun KK9 hK => ?_) (AllReadyH.cons rfl (fun KK9 hK => ?_) AllReadyH.nil))
          all_goals dsimp -proj only [List.getElem_toArray, List.getElem_cons_zero, List.getElem_cons_succ]
          · go_simp
            go_at_call 19
            refine (HRUN wq.drew hS0).out.mono ?_
            rintro e x7 ⟨wp, wc, ou, oc, rfl, o17, o27, hb7⟩
            try go_wp2_with fail
            have hs7 : Below wq.heap.size wq x7 := hS0.trans (hb7.mono hS0.size)
            refine hK.out _ _ hs7 (fun hHeld => ?_)
            clear hK KK9
            try simp only [Act.put, List.setIfInBounds_toArray, List.set_cons_zero, List.set_cons_succ]
            refine wpAnyH_ready (rs := [8]) (by kernel_rfl) (by simp) (AllReadyH.cons rfl (fun KK9 hK => ?_) AllReadyH.nil)
            all_goals dsimp -proj only [List.getElem_toArray, List.getElem_cons_zero, List.getElem_cons_succ]
            · refine step_alloc_row rfl 48 rfl iF _ hF1 hF2 ?_
              obtain ⟨x8, hw8⟩ : ∃ x, (x7).alloc (.cells #[.int .i64 0, .slice none 0 0, .int .u64 0, .int .u64 0, .slice none 0 0, .int .i64 0] 48) = x := ⟨_, rfl⟩
              obtain ⟨hb8, hm8, hz8⟩ := boxed _ _ _ hw8
              have hs8 : Below wq.heap.size wq x8 := hs7.trans (hb8.mono hs7.size)
              have hfl8 : wq.heap.size ≤ (x7).heap.size := hs7.size
              have p18 := Own.later o17 hb8
              have p28 := Own.later o27 hb8
              show KK9 _ ((x7).alloc (.cells #[.int .i64 0, .slice none 0 0, .int .u64 0, .int .u64 0, .slice none 0 0, .int .i64 0] 48))
              rw [hw8]
              clear hw8
              refine hK.out _ _ hs8 (fun hHeld => ?_)
              clear hK KK9
              try simp only [Act.put, List.setIfInBounds_toArray, List.set_cons_zero, List.set_cons_succ]
              refine wpAnyH_ready (rs := [9]) (by kernel_rfl) (by simp) (AllReadyH.cons rfl (fun KK9 hK => ?_) AllReadyH.nil)
              all_goals dsimp -proj only [List.getElem_toArray, List.getElem_cons_zero, List.getElem_cons_succ]
              · refine step_store_row rfl 48 _ _ rfl (x7).heap.size _ rfl rfl 48 _ hm8 (by kernel_rfl) rfl (by kernel_rfl) ?_
                obtain ⟨x9, hw9⟩ : ∃ x, (x8).setRow (x7).heap.size #[.int .i64 E.code, .slice wp E.nw wc, .int .u64 E.dice, .int .u64 E.sent, .slice ou E.on oc, .int .i64 E.used] = x := ⟨_, rfl⟩
                have hm9 : x9.heap[(x7).heap.size]? = some (.cells #[.int .i64 E.code, .slice wp E.nw wc, .int .u64 E.dice, .int .u64 E.sent, .slice ou E.on oc, .int .i64 E.used] 48 (0, 0)) := by
                  rw [← hw9]
                  exact setRow_heap _ _ _ _ _ _ hm8
                have hs9 : Below wq.heap.size wq x9 := by
                  rw [← hw9]
                  exact setRow_below _ hs8 hfl8
                have r19 := Own.far (W' := x9) p18 fun k9 e9 => by
                  rw [← hw9]
                  refine setRow_far _ _ _ _ fun e8 => ?_
                  subst e8
                  have h1 := (Own.lt o17 _ e9).2
                  omega
                have r29 := Own.far (W' := x9) p28 fun k9 e9 => by
                  rw [← hw9]
                  refine setRow_far _ _ _ _ fun e8 => ?_
                  subst e8
                  have h1 := (Own.lt o27 _ e9).2
                  omega
                rw [hw9]
                clear hw9
                refine hK.out _ _ hs9 (fun hHeld => ?_)
                clear hK KK9
                try simp only [Act.put, List.setIfInBounds_toArray, List.set_cons_zero, List.set_cons_succ]
                refine wpAnyH_done (by kernel_rfl) ?_ _
                go_wp2_with fail
                go_meet
                case rel =>
                  exact ⟨(x7).heap.size, wp, wc, ou, oc, wq.drew.heap.size, rfl, hm9, r19, r29, hs9, hS0.size, hfl8⟩
          · refine step_alloc_row rfl 48 rfl iF _ hF1 hF2 ?_
            obtain ⟨x10, hw10⟩ : ∃ x, (wq.drew).alloc (.cells #[.int .i64 0, .slice none 0 0, .int .u64 0, .int .u64 0, .slice none 0 0, .int .i64 0] 48) = x := ⟨_, rfl⟩
            obtain ⟨hb10, hm10, hz10⟩ := boxed _ _ _ hw10
            have hs10 : Below wq.heap.size wq x10 := hS0.trans (hb10.mono hS0.size)
            have hfl10 : wq.heap.size ≤ (wq.drew).heap.size := hS0.size
            show KK9 _ ((wq.drew).alloc (.cells #[.int .i64 0, .slice none 0 0, .int .u64 0, .int .u64 0, .slice none 0 0, .int .i64 0] 48))
            rw [hw10]
            clear hw10
            refine hK.out _ _ hs10 (fun hHeld => ?_)
            clear hK KK9
            try simp only [Act.put, List.setIfInBounds_toArray, List.set_cons_zero, List.set_cons_succ]
            refine wpAnyH_ready (rs := [7]) (by kernel_rfl) (by simp) (AllReadyH.cons rfl (fun KK9 hK => ?_) AllReadyH.nil)
            all_goals dsimp -proj only [List.getElem_toArray, List.getElem_cons_zero, List.getElem_cons_succ]
            · go_simp
              go_at_call 19
              refine (HRUN x10 hs10).out.mono ?_
              rintro e x11 ⟨wp, wc, ou, oc, rfl, o111, o211, hb11⟩
              try go_wp2_with fail
              have hs11 : Below wq.heap.size wq x11 := hs10.trans (hb11.mono hs10.size)
              have hm11 := (hb11.block _ (lt_of_block hm10)).trans hm10
              have hno11 : (wq.drew).heap.size < x10.heap.size := lt_of_block hm10
              refine hK.out _ _ hs11 (fun hHeld => ?_)
              clear hK KK9
              try simp only [Act.put, List.setIfInBounds_toArray, List.set_cons_zero, List.set_cons_succ]
              refine wpAnyH_ready (rs := [9]) (by kernel_rfl) (by simp) (AllReadyH.cons rfl (fun KK9 hK => ?_) AllReadyH.nil)
              all_goals dsimp -proj only [List.getElem_toArray, List.getElem_cons_zero, List.getElem_cons_succ]
              · refine step_store_row rfl 48 _ _ rfl (wq.drew).heap.size _ rfl rfl 48 _ hm11 (by kernel_rfl) rfl (by kernel_rfl) ?_
                obtain ⟨x12, hw12⟩ : ∃ x, (x11).setRow (wq.drew).heap.size #[.int .i64 E.code, .slice wp E.nw wc, .int .u64 E.dice, .int .u64 E.sent, .slice ou E.on oc, .int .i64 E.used] = x := ⟨_, rfl⟩
                have hm12 : x12.heap[(wq.drew).heap.size]? = some (.cells #[.int .i64 E.code, .slice wp E.nw wc, .int .u64 E.dice, .int .u64 E.sent, .slice ou E.on oc, .int .i64 E.used] 48 (0, 0)) := by
                  rw [← hw12]
                  exact setRow_heap _ _ _ _ _ _ hm11
                have hs12 : Below wq.heap.size wq x12 := by
                  rw [← hw12]
                  exact setRow_below _ hs11 hfl10
                have r112 := Own.far (W' := x12) o111 fun k9 e9 => by
                  rw [← hw12]
                  refine setRow_far _ _ _ _ fun e8 => ?_
                  subst e8
                  have h1 := (Own.lt o111 _ e9).1
                  have h2 := hno11
                  omega
                have r212 := Own.far (W' := x12) o211 fun k9 e9 => by
                  rw [← hw12]
                  refine setRow_far _ _ _ _ fun e8 => ?_
                  subst e8
                  have h1 := (Own.lt o211 _ e9).1
                  have h2 := hno11
                  omega
                rw [hw12]
                clear hw12
                refine hK.out _ _ hs12 (fun hHeld => ?_)
                clear hK KK9
                try simp only [Act.put, List.setIfInBounds_toArray, List.set_cons_zero, List.set_cons_succ]
                refine wpAnyH_done (by kernel_rfl) ?_ _
                go_wp2_with fail
                go_meet
                case rel =>
                  exact ⟨(wq.drew).heap.size, wp, wc, ou, oc, x10.heap.size, rfl, hm12, r112, r212, hs12, hs10.size, hfl10⟩
        case rest =>
          obtain ⟨fb, wp, wc', ou, oc, bw, rfl, hfx, ho1, ho2, hbc, hbw, hfb⟩ := hcut
          obtain ⟨wx, rfl⟩ : ∃ wx, wx = wc := ⟨_, rfl⟩
          obtain ⟨g1, g2, g3⟩ := HEO.out
          obtain ⟨_, i2, i3, i4, i5⟩ := HI.out
          rw [g1] at hfx ho1
          have hbrx : Below wr.heap.size wr wx := HQ.out.1.trans (hbc.mono HQ.out.1.size)
          have hrx : ARow wx w4.heap.size gst p.nq sc B := Own.later i2 hbrx
          obtain ⟨t0, t1, t2⟩ := hrx.cells hdq
          have l0 := hrx.fz (dn * 3)
          have l1 := hrx.fz (dn * 3 + 1)
          have l2 := hrx.fz (dn * 3 + 2)
          have v0 : wx.cell? ⟨fb, 0, none⟩ = some (.int .i64 E.code) := cell_in hfx rfl
          have v1 : wx.cell? ⟨fb, 1, none⟩ = some (.slice wp (p.nw dn) wc') := cell_in hfx rfl
          have v2 : wx.cell? ⟨fb, 2, none⟩ = some (.int .u64 E.dice) := cell_in hfx rfl
          have v3 : wx.cell? ⟨fb, 3, none⟩ = some (.int .u64 E.sent) := cell_in hfx rfl
          have b3 : wx.cell? ⟨g8, 3, none⟩ = some (.int .i64 (dn : Int)) := (KS wx hbc).2.1.2.2.2.1
          have hgl := Own.lt i2 gst rfl
          obtain ⟨w10, hw10⟩ : ∃ w10, wx.setCells gst (dn * 3) (saL ⟨wp, p.nw dn, wc', E.dice, E.sent⟩) = w10 := ⟨_, rfl⟩
          have HW10 : Hid (((wx.setCell ⟨gst, dn * 3, none⟩ (.slice wp (p.nw dn) wc')).setCell ⟨gst, dn * 3 + 1, none⟩ (.int .u64 E.dice)).setCell ⟨gst, dn * 3 + 2, none⟩ (.int .u64 E.sent) = w10) := hw10
          have hk10 : Kb (fun k => k = gst) wx w10 := by rw [← hw10]; exact kb_sets _ _ _ _ _ rfl
          have hr10 : ARow w10 w4.heap.size gst p.nq sc (setS B dn ⟨wp, p.nw dn, wc', E.dice, E.sent⟩) := by rw [← hw10]; exact hrx.put dn _
          have hb10 : ∀ b w0, Below b w0 wx → b ≤ gst → Below b w0 w10 := fun b w0 h9 hle => by
            rw [← hw10]
            exact ((h9.setCell (p := ⟨gst, dn * 3, none⟩) hle _).setCell (p := ⟨gst, dn * 3 + 1, none⟩) hle _).setCell (p := ⟨gst, dn * 3 + 2, none⟩) hle _
          have hzx := hbrx.size
          have hzq := hbc.size
          have hzr := HQ.out.1.size
          have hs10 : wx.heap.size ≤ w10.heap.size := hk10.size
          have hx10 := (hk10.block fb (lt_of_block hfx) (by omega)).trans hfx
          have hev10 : Own w10 bw 39 6 (.slice ou E.on oc) E.on (seF (outS E)) := Own.congr (Own.far ho2 fun k hk => hk10.block k (Own.lt ho2 k hk).2 (by have := (Own.lt ho2 k hk).1; show ¬ k = gst; omega)) fun j hj => g3.outF j hj
          have hwd10 : Own w10 bw 2 1 (.slice wp (p.nw dn) wc') (p.nw dn) (iv E.wd) := Own.far ho1 fun k hk => hk10.block k (Own.lt ho1 k hk).2 (by have := (Own.lt ho1 k hk).1; show ¬ k = gst; omega)
          have hglne : gl ≠ gst := fun e => HI.out.1.2.1 (by rw [e]; rfl)
          have hleft10 : ∀ j, j < n * 6 → w10.cell? ⟨gl, 0 + j, none⟩ = some (seF X j) := fun j hj => (cell_kb (a := ⟨gl, 0 + j, none⟩) hk10 (Nat.lt_of_lt_of_le HNX.out.2.2.2.2 hzx) hglne).trans ((cell_below (a := ⟨gl, 0 + j, none⟩) hbrx HNX.out.2.2.2.2).trans (HLC.out j hj))
          have hst : ∀ j, stP p C.Z j (i + 1) = if j = dn then (E.wd, E.dice, E.sent) else stP p C.Z j i := fun j => by
            have h9 := HX.out.2.2.2.2
            show (if (C.Z i).d.toNat = j then ((efS p (C.Z i) (stP p C.Z j i)).wd, (efS p (C.Z i) (stP p C.Z j i)).dice, (efS p (C.Z i) (stP p C.Z j i)).sent) else stP p C.Z j i) = _
            rw [h9]
            by_cases e : j = dn
            · have e8 : efS p (C.Z i) (stP p C.Z j i) = E := by rw [e, ← g2]; unfold efN; rw [h9]
              rw [if_pos e.symm, if_pos e, e8]
            · rw [if_neg (fun e9 => e e9.symm), if_neg e]
          have H10 : Hid (ARow w10 w4.heap.size gst p.nq sc (setS B dn ⟨wp, p.nw dn, wc', E.dice, E.sent⟩) ∧ Own w10 bw 39 6 (.slice ou E.on oc) E.on (seF (outS E)) ∧ Own w10 bw 2 1 (.slice wp (p.nw dn) wc') (p.nw dn) (iv E.wd) ∧ w10.heap[fb]? = some (.cells #[.int .i64 E.code, .slice wp (p.nw dn) wc', .int .u64 E.dice, .int .u64 E.sent, .slice ou E.on oc, .int .i64 E.used] 48 (0, 0)) ∧ Kb (fun k => k = gst) wx w10 ∧ Below w4.heap.size w6 w10 ∧ Below wr.heap.size wr wx ∧ wr.heap.size < bw ∧ w4.heap.size ≤ gst ∧ gst < wr.heap.size) := ⟨hr10, hev10, hwd10, hx10, hk10, hb10 _ _ (i5.trans (hbrx.mono (by have := i5.size; have := H7.out.2.2; omega))) hgl.1, hbrx, by have := HQ.out.2; omega, hgl.1, hgl.2⟩
          have HST : Hid (∀ j, stP p C.Z j (i + 1) = if j = dn then (E.wd, E.dice, E.sent) else stP p C.Z j i) := hst
          have HL10 : Hid (∀ j, j < n * 6 → w10.cell? ⟨gl, 0 + j, none⟩ = some (seF X j)) := hleft10
          have hgl10 : gl < w10.heap.size := by have := HNX.out.2.2.2.2; omega
          have v4 : ∀ W, Below w10.heap.size w10 W → W.cell? ⟨fb, 4, none⟩ = some (.slice ou E.on oc) := fun W hb => cell_in ((hb.block _ (lt_of_block hx10)).trans hx10) rfl
          clear g1 g2 g3 i2 i3 i4 i5 hfx ho1 ho2 hbc hbw hfb hbrx hrx hgl hw10 hk10 hr10 hb10 hzx hzq hzr hs10 hx10 hev10 hwd10 hst hleft10 hglne KS
          go_upto_region 18 with fail
          rw [HW10.out]
          clear v0 v1 v2 v3 t0 t1 t2 l0 l1 l2 b3
          have hn1 : 1 ≤ n := HNX.out.1
          have hon16 := HEO.out.2.2.on
          have hnbb := HI.out.1.2.2.2.2
          have hbd10 : Below w10.heap.size w10 w10.drew := (Below.refl _ w10).drew
          have hsE := own_sin0 H10.out.2.1
          go_cut [5] from 78 to 84 (fun x5 wx' => ∃ (g : Nat) (D d9 c9 : Nat → Se), x5 = .slice (some ⟨g, 0, none⟩) (n - 1 + E.on) (n - 1 + E.on) ∧ SIn wx' (some ⟨g, 0, none⟩) (n - 1 + E.on) d9 ∧ w10.heap.size ≤ g ∧ Stb klt 0 E.on (outS E) D ∧ (∀ j, j < n - 1 → c9 j = X (j + 1)) ∧ (∀ j, j < E.on → c9 (n - 1 + j) = D j) ∧ Stb klt 0 (n - 1 + E.on) c9 d9 ∧ Srt klt 0 (n - 1 + E.on) d9 ∧ Below w10.heap.size w10 wx')
          case first =>
            have n2 : (1 : Int) ≤ (n : Int) := by omega
            have HOR : ∀ W, Below w10.heap.size w10 W → Hid (Calls Tryz.prog 29 #[.slice ou E.on oc] W fun e w' => ∃ g d, e = .returned (.slice (some ⟨g, 0, none⟩) E.on E.on) ∧ SRow w' W.heap.size g E.on E.on d ∧ Stb klt 0 E.on (outS E) d ∧ Srt klt 0 E.on d ∧ Below W.heap.size W w') := fun W hb => order_any ou E.on oc (outS E) (by omega) W (hsE.below hb)
            by_cases hn1' : n = 1
            case pos =>
              subst hn1'
              refine wp_region_held_drew (S := fun W9 => Below w10.heap.size w10 W9) (by kernel_rfl) hbd10 (fun hHeld => ?_)
              have hS0 : Below w10.heap.size w10 w10.drew := hHeld
              refine wpAnyH_take (i := 0) (v := ?hv0p) rfl (by kernel_rfl) (by kernel_rfl) (by kernel_rfl) (fun _ _ _ h => h) (Or.inl ⟨by rfl, ?hy0p⟩) (by assumption) ?hr0p
              case hy0p => ((intro W9 hSw; have b4 := v4 W9 hSw; go_simp); try with_reducible rfl)
              simp only [List.getElem_toArray, List.getElem_cons_zero, List.getElem_cons_succ, Act.put, List.setIfInBounds_toArray, List.set_cons_zero, List.set_cons_succ]
              refine wpAnyH_take (i := 1) (v := ?hv1p) rfl (by kernel_rfl) (by kernel_rfl) (by kernel_rfl) (fun _ _ _ h => h) (Or.inl ⟨by rfl, ?hy1p⟩) (by assumption) ?hr1p
              case hy1p => ((intro W9 hSw; have b4 := v4 W9 hSw; go_simp); try with_reducible rfl)
              simp only [List.getElem_toArray, List.getElem_cons_zero, List.getElem_cons_succ, Act.put, List.setIfInBounds_toArray, List.set_cons_zero, List.set_cons_succ]
              refine wpAnyH_take (i := 2) (v := ?hv2p) rfl (by kernel_rfl) (by kernel_rfl) (by kernel_rfl) (fun _ _ _ h => h) (Or.inl ⟨by rfl, ?hy2p⟩) (by assumption) ?hr2p
              case hy2p => ((intro W9 hSw; have b4 := v4 W9 hSw; go_simp); try with_reducible rfl)
              simp only [List.getElem_toArray, List.getElem_cons_zero, List.getElem_cons_succ, Act.put, List.setIfInBounds_toArray, List.set_cons_zero, List.set_cons_succ]
              refine wpAnyH_take (i := 3) (v := ?hv3p) rfl (by kernel_rfl) (by kernel_rfl) (by kernel_rfl) (fun _ _ _ h => h) (Or.inl ⟨by rfl, ?hy3p⟩) (by assumption) ?hr3p
              case hy3p => ((intro W9 hSw; have b4 := v4 W9 hSw; go_simp); try with_reducible rfl)
              simp only [List.getElem_toArray, List.getElem_cons_zero, List.getElem_cons_succ, Act.put, List.setIfInBounds_toArray, List.set_cons_zero, List.set_cons_succ]
              refine wpAnyH_ready (rs := [4]) (by kernel_rfl) (by simp) (AllReadyH.cons rfl (fun KK9 hK => ?_) AllReadyH.nil)
              all_goals dsimp -proj only [List.getElem_toArray, List.getElem_cons_zero, List.getElem_cons_succ]
              go_simp
              go_at_call 29
              refine (HOR w10.drew hS0).out.mono ?_
              rintro e y1 ⟨g1, D, rfl, hsr1, hst1, hso1, hby1⟩
              try go_wp2_with fail
              have hy1 : Below w10.heap.size w10 y1 := hS0.trans (hby1.mono hS0.size)
              refine hK.out _ _ hy1 (fun hHeld => ?_)
              clear hK KK9
              try simp only [Act.put, List.setIfInBounds_toArray, List.set_cons_zero, List.set_cons_succ]
              refine wpAnyH_ready (rs := [5]) (by kernel_rfl) (by simp) (AllReadyH.cons rfl (fun KK9 hK => ?_) AllReadyH.nil)
              all_goals dsimp -proj only [List.getElem_toArray, List.getElem_cons_zero, List.getElem_cons_succ]
              go_simp
              obtain ⟨y2, hy2e⟩ : ∃ y2, y1.alloc (.cells #[.slice (some ⟨gl, 0, none⟩) 0 0, .slice (some ⟨g1, 0, none⟩) E.on E.on] 34) = y2 := ⟨_, rfl⟩
              obtain ⟨hby2, hx2, hz2⟩ := boxed _ _ _ hy2e
              rw [hy2e]
              have hy2 : Below w10.heap.size w10 y2 := hy1.trans (hby2.mono hy1.size)
              refine hK.out _ _ hy2 (fun hHeld => ?_)
              clear hK KK9
              try simp only [Act.put, List.setIfInBounds_toArray, List.set_cons_zero, List.set_cons_succ]
              have hls : LsIn y2 (some ⟨y1.heap.size, 0, none⟩) 2 (fun k => if k = 0 then (⟨(some ⟨gl, 0, none⟩), 0, 0, fun j => X (j + 1)⟩ : LsP) else ⟨some ⟨g1, 0, none⟩, E.on, E.on, D⟩) := by
                refine ⟨.inr ⟨y1.heap.size, 0, rfl, by omega, fun k hk => ?_⟩, fun k hk => ?_⟩
                · have : k = 0 ∨ k = 1 := by omega
                  rcases this with rfl | rfl
                  · exact cell_in hx2 rfl
                  · exact cell_in hx2 rfl
                · have : k = 0 ∨ k = 1 := by omega
                  rcases this with rfl | rfl
                  · exact .inl rfl
                  · exact (own_sin0 hsr1).below hby2
              have hoff : offL (fun k => if k = 0 then (⟨(some ⟨gl, 0, none⟩), 0, 0, fun j => X (j + 1)⟩ : LsP) else ⟨some ⟨g1, 0, none⟩, E.on, E.on, D⟩) 2 = 0 + E.on := by show 0 + _ + _ = _; simp
              have hcat : ∀ j, j < 0 + E.on → catL (fun k => if k = 0 then (⟨(some ⟨gl, 0, none⟩), 0, 0, fun j => X (j + 1)⟩ : LsP) else ⟨some ⟨g1, 0, none⟩, E.on, E.on, D⟩) 2 j = if j < 0 then X (j + 1) else D (j - 0) := fun j hj => by
                show (if j < 0 + 0 then (if j < 0 then zeSM else X (j - 0 + 1)) else D (j - (0 + 0))) = _
                rw [Nat.zero_add]
                by_cases e : j < 0
                · first | exact absurd e (Nat.not_lt_zero _) | rw [if_pos e, if_pos e, if_neg (Nat.not_lt_zero _), Nat.sub_zero]
                · rw [if_neg e, if_neg e]
              have HME := merge_any (some ⟨y1.heap.size, 0, none⟩) 2 2 (fun k => if k = 0 then (⟨(some ⟨gl, 0, none⟩), 0, 0, fun j => X (j + 1)⟩ : LsP) else ⟨some ⟨g1, 0, none⟩, E.on, E.on, D⟩) (by omega) (by rw [hoff]; omega) y2 hls
              rw [hoff] at HME
              refine wpAnyH_ready (rs := [6]) (by kernel_rfl) (by simp) (AllReadyH.cons rfl (fun KK9 hK => ?_) AllReadyH.nil)
              all_goals dsimp -proj only [List.getElem_toArray, List.getElem_cons_zero, List.getElem_cons_succ]
              go_simp
              go_at_call 30
              refine HME.mono ?_
              rintro e y3 ⟨g3, d9, rfl, hsr3, hst3, hso3, hby3⟩
              try go_wp2_with fail
              have hy3 : Below w10.heap.size w10 y3 := hy2.trans (hby3.mono hy2.size)
              refine hK.out _ _ hy3 (fun hHeld => ?_)
              clear hK KK9
              try simp only [Act.put, List.setIfInBounds_toArray, List.set_cons_zero, List.set_cons_succ]
              refine wpAnyH_take (i := 7) (v := ?hv7p) rfl (by kernel_rfl) (by kernel_rfl) (by kernel_rfl) (fun _ _ _ h => h) (Or.inl ⟨by rfl, ?hy7p⟩) (by assumption) ?hr7p
              case hy7p => ((intro W9 hSw; skip; go_simp); try with_reducible rfl)
              simp only [List.getElem_toArray, List.getElem_cons_zero, List.getElem_cons_succ, Act.put, List.setIfInBounds_toArray, List.set_cons_zero, List.set_cons_succ]
              refine wpAnyH_done (by kernel_rfl) ?_ _
              go_wp2_with fail
              go_meet
              case rel =>
                refine ⟨g3, D, d9, catL (fun k => if k = 0 then (⟨(some ⟨gl, 0, none⟩), 0, 0, fun j => X (j + 1)⟩ : LsP) else ⟨some ⟨g1, 0, none⟩, E.on, E.on, D⟩) 2, by simp, by simpa using own_sin0 hsr3, by have := (Own.lt hsr3 g3 rfl).1; have := hy2.size; omega, hst1, fun j hj => ?_, fun j hj => ?_, by simpa using hst3, by simpa using hso3, hy3⟩
                · rw [hcat j (by omega), if_pos (by omega)]
                · rw [hcat _ (by omega), if_neg (by omega)]
                  congr 1
                  omega
            have hcapn : ¬ n = 1 := hn1'
            refine wp_region_held_drew (S := fun W9 => Below w10.heap.size w10 W9) (by kernel_rfl) hbd10 (fun hHeld => ?_)
            have hS0 : Below w10.heap.size w10 w10.drew := hHeld
            refine wpAnyH_take (i := 0) (v := ?hv0q) rfl (by kernel_rfl) (by kernel_rfl) (by kernel_rfl) (fun _ _ _ h => h) (Or.inl ⟨by rfl, ?hy0q⟩) (by assumption) ?hr0q
            case hy0q => ((intro W9 hSw; have b4 := v4 W9 hSw; go_simp); try with_reducible rfl)
            simp only [List.getElem_toArray, List.getElem_cons_zero, List.getElem_cons_succ, Act.put, List.setIfInBounds_toArray, List.set_cons_zero, List.set_cons_succ]
            refine wpAnyH_take (i := 1) (v := ?hv1q) rfl (by kernel_rfl) (by kernel_rfl) (by kernel_rfl) (fun _ _ _ h => h) (Or.inl ⟨by rfl, ?hy1q⟩) (by assumption) ?hr1q
            case hy1q => ((intro W9 hSw; have b4 := v4 W9 hSw; go_simp); try with_reducible rfl)
            simp only [List.getElem_toArray, List.getElem_cons_zero, List.getElem_cons_succ, Act.put, List.setIfInBounds_toArray, List.set_cons_zero, List.set_cons_succ]
            refine wpAnyH_take (i := 2) (v := ?hv2q) rfl (by kernel_rfl) (by kernel_rfl) (by kernel_rfl) (fun _ _ _ h => h) (Or.inl ⟨by rfl, ?hy2q⟩) (by assumption) ?hr2q
            case hy2q => ((intro W9 hSw; have b4 := v4 W9 hSw; go_simp); try with_reducible rfl)
            simp only [List.getElem_toArray, List.getElem_cons_zero, List.getElem_cons_succ, Act.put, List.setIfInBounds_toArray, List.set_cons_zero, List.set_cons_succ]
            refine wpAnyH_take (i := 3) (v := ?hv3q) rfl (by kernel_rfl) (by kernel_rfl) (by kernel_rfl) (fun _ _ _ h => h) (Or.inl ⟨by rfl, ?hy3q⟩) (by assumption) ?hr3q
            case hy3q => ((intro W9 hSw; have b4 := v4 W9 hSw; go_simp); try with_reducible rfl)
            simp only [List.getElem_toArray, List.getElem_cons_zero, List.getElem_cons_succ, Act.put, List.setIfInBounds_toArray, List.set_cons_zero, List.set_cons_succ]
            refine wpAnyH_ready (rs := [4]) (by kernel_rfl) (by simp) (AllReadyH.cons rfl (fun KK9 hK => ?_) AllReadyH.nil)
            all_goals dsimp -proj only [List.getElem_toArray, List.getElem_cons_zero, List.getElem_cons_succ]
            go_simp
            go_at_call 29
            refine (HOR w10.drew hS0).out.mono ?_
            rintro e y1 ⟨g1, D, rfl, hsr1, hst1, hso1, hby1⟩
            try go_wp2_with fail
            have hy1 : Below w10.heap.size w10 y1 := hS0.trans (hby1.mono hS0.size)
            refine hK.out _ _ hy1 (fun hHeld => ?_)
            clear hK KK9
            try simp only [Act.put, List.setIfInBounds_toArray, List.set_cons_zero, List.set_cons_succ]
            refine wpAnyH_ready (rs := [5]) (by kernel_rfl) (by simp) (AllReadyH.cons rfl (fun KK9 hK => ?_) AllReadyH.nil)
            all_goals dsimp -proj only [List.getElem_toArray, List.getElem_cons_zero, List.getElem_cons_succ]
            go_simp
            obtain ⟨y2, hy2e⟩ : ∃ y2, y1.alloc (.cells #[.slice (some ⟨gl, 6, none⟩) (n - 1) (n - 1), .slice (some ⟨g1, 0, none⟩) E.on E.on] 34) = y2 := ⟨_, rfl⟩
            obtain ⟨hby2, hx2, hz2⟩ := boxed _ _ _ hy2e
            rw [hy2e]
            have hy2 : Below w10.heap.size w10 y2 := hy1.trans (hby2.mono hy1.size)
            refine hK.out _ _ hy2 (fun hHeld => ?_)
            clear hK KK9
            try simp only [Act.put, List.setIfInBounds_toArray, List.set_cons_zero, List.set_cons_succ]
            have hls : LsIn y2 (some ⟨y1.heap.size, 0, none⟩) 2 (fun k => if k = 0 then (⟨(some ⟨gl, 6, none⟩), (n - 1), (n - 1), fun j => X (j + 1)⟩ : LsP) else ⟨some ⟨g1, 0, none⟩, E.on, E.on, D⟩) := by
              refine ⟨.inr ⟨y1.heap.size, 0, rfl, by omega, fun k hk => ?_⟩, fun k hk => ?_⟩
              · have : k = 0 ∨ k = 1 := by omega
                rcases this with rfl | rfl
                · exact cell_in hx2 rfl
                · exact cell_in hx2 rfl
              · have : k = 0 ∨ k = 1 := by omega
                rcases this with rfl | rfl
                · exact (.inr ⟨gl, 6, rfl, Nat.lt_of_lt_of_le hgl10 hy2.size, fun j hj => by
                have hj : j < (n - 1) * 6 := hj
                have h9 := (cell_below (a := ⟨gl, 0 + (6 + j), none⟩) hy2 hgl10).trans (HL10.out (6 + j) (by omega))
                rw [show 0 + (6 + j) = 6 + j by omega] at h9
                show y2.cell? ⟨gl, 6 + j, none⟩ = some (seF (fun j => X (j + 1)) j)
                rw [h9]
                unfold seF
                rw [show (6 + j) / 6 = j / 6 + 1 by omega, show (6 + j) % 6 = j % 6 by omega]⟩)
                · exact (own_sin0 hsr1).below hby2
            have hoff : offL (fun k => if k = 0 then (⟨(some ⟨gl, 6, none⟩), (n - 1), (n - 1), fun j => X (j + 1)⟩ : LsP) else ⟨some ⟨g1, 0, none⟩, E.on, E.on, D⟩) 2 = (n - 1) + E.on := by show 0 + _ + _ = _; simp
            have hcat : ∀ j, j < (n - 1) + E.on → catL (fun k => if k = 0 then (⟨(some ⟨gl, 6, none⟩), (n - 1), (n - 1), fun j => X (j + 1)⟩ : LsP) else ⟨some ⟨g1, 0, none⟩, E.on, E.on, D⟩) 2 j = if j < (n - 1) then X (j + 1) else D (j - (n - 1)) := fun j hj => by
              show (if j < 0 + (n - 1) then (if j < 0 then zeSM else X (j - 0 + 1)) else D (j - (0 + (n - 1)))) = _
              rw [Nat.zero_add]
              by_cases e : j < (n - 1)
              · first | exact absurd e (Nat.not_lt_zero _) | rw [if_pos e, if_pos e, if_neg (Nat.not_lt_zero _), Nat.sub_zero]
              · rw [if_neg e, if_neg e]
            have HME := merge_any (some ⟨y1.heap.size, 0, none⟩) 2 2 (fun k => if k = 0 then (⟨(some ⟨gl, 6, none⟩), (n - 1), (n - 1), fun j => X (j + 1)⟩ : LsP) else ⟨some ⟨g1, 0, none⟩, E.on, E.on, D⟩) (by omega) (by rw [hoff]; omega) y2 hls
            rw [hoff] at HME
            refine wpAnyH_ready (rs := [6]) (by kernel_rfl) (by simp) (AllReadyH.cons rfl (fun KK9 hK => ?_) AllReadyH.nil)
            all_goals dsimp -proj only [List.getElem_toArray, List.getElem_cons_zero, List.getElem_cons_succ]
            go_simp
            go_at_call 30
            refine HME.mono ?_
            rintro e y3 ⟨g3, d9, rfl, hsr3, hst3, hso3, hby3⟩
            try go_wp2_with fail
            have hy3 : Below w10.heap.size w10 y3 := hy2.trans (hby3.mono hy2.size)
            refine hK.out _ _ hy3 (fun hHeld => ?_)
            clear hK KK9
            try simp only [Act.put, List.setIfInBounds_toArray, List.set_cons_zero, List.set_cons_succ]
            refine wpAnyH_take (i := 7) (v := ?hv7q) rfl (by kernel_rfl) (by kernel_rfl) (by kernel_rfl) (fun _ _ _ h => h) (Or.inl ⟨by rfl, ?hy7q⟩) (by assumption) ?hr7q
            case hy7q => ((intro W9 hSw; skip; go_simp); try with_reducible rfl)
            simp only [List.getElem_toArray, List.getElem_cons_zero, List.getElem_cons_succ, Act.put, List.setIfInBounds_toArray, List.set_cons_zero, List.set_cons_succ]
            refine wpAnyH_done (by kernel_rfl) ?_ _
            go_wp2_with fail
            go_meet
            case rel =>
              refine ⟨g3, D, d9, catL (fun k => if k = 0 then (⟨(some ⟨gl, 6, none⟩), (n - 1), (n - 1), fun j => X (j + 1)⟩ : LsP) else ⟨some ⟨g1, 0, none⟩, E.on, E.on, D⟩) 2, rfl, own_sin0 hsr3, by have := (Own.lt hsr3 g3 rfl).1; have := hy2.size; omega, hst1, fun j hj => ?_, fun j hj => ?_, hst3, hso3, hy3⟩
              · rw [hcat j (by omega), if_pos hj]
              · rw [hcat _ (by omega), if_neg (by omega)]
                congr 1
                omega
          case rest =>
            obtain ⟨g9, D, d9, c9, rfl, hs9, hg9, hD1, hc1, hc2, hS9, hT9, hb9⟩ := hcut
            obtain ⟨wz, rfl⟩ : ∃ wz, wz = wc := ⟨_, rfl⟩
            have hefA : effA p A (X 0) = E := by
              rw [HNX.out.2.1, ← HEO.out.2.1]
              unfold efN effA
              have h9 := steps_stP HI.out.1.2.2.1 (C.Z i).d.toNat
              have h8 : stP p C.Z (C.Z i).d.toNat i = stP p A.Z (C.Z i).d.toNat i := by
                obtain ⟨BB, hBB, hZZ, _⟩ := H6.out.1.steps
                obtain ⟨A9, k1, _, _, k4, _⟩ := hBB.at HPL.out.2.2 hlm
                obtain rfl := HI.out.1.2.2.1.one k1
                exact stP_congr p _ i fun j hj => by rw [hZZ]; exact (k4 j hj).symm
              rw [h8, h9]
              rfl
            have hpn9 := HI.out.1.2.2.2.1.next HPL.out.2.2 HNX.out.2.2.2.1 HNX.out.1 (m := E.on) (by rw [hefA]) (by rw [hefA]; exact hD1) hc1 hc2 hS9 hT9
            rw [HNX.out.2.1] at hpn9
            have hok9 := steps_ok HPL.out.2.2 (fst_ok HPL.out.2.2) HNX.out.2.2.1
            have HRI := callsY (rising_any (some ⟨g9, 0, none⟩) (n - 1 + E.on) (n - 1 + E.on) d9 (by omega) wz hs9) (hpn9.rsg hok9)
            obtain ⟨N9, hN9⟩ : ∃ N9, n - 1 + E.on = N9 := ⟨_, rfl⟩
            rw [hN9] at HRI hs9 hpn9 ⊢
            have HZ : Hid (SIn wz (some ⟨g9, 0, none⟩) N9 d9 ∧ Pnd (nextA p A (C.Z i)) N9 d9 ∧ Below w10.heap.size w10 wz ∧ w10.heap.size ≤ g9 ∧ N9 ≤ 256 + 16 * (i + 1)) := ⟨hs9, hpn9, hb9, hg9, by omega⟩
            clear hs9 hpn9 hb9 hg9 hN9 hD1 hc1 hc2 hS9 hT9 hok9 hefA
            go_wp2_with (go_at_call 31; (with_reducible refine HRI.mono ?_); rintro e wy ⟨rfl, hby⟩)
            obtain ⟨a1, a2, a3, a4, a5⟩ := HZ.out
            obtain ⟨h1, h2, h3, h4, h5, h6, h7, h8, h9, h10⟩ := H10.out
            obtain ⟨i1', i2, i3, i4, i5⟩ := HI.out
            obtain ⟨g1, g2, g3⟩ := HEO.out
            have hst := HST.out
            have hbwy : Below w10.heap.size w10 wy := a3.trans (hby.mono a3.size)
            have hz10 := hbwy.size
            have hzx := h5.size
            have hzr := h7.size
            have hi4 := i4.size
            have hw46 := H7.out.2.2
            refine ⟨⟨i + 1, setS B dn ⟨wp, p.nw dn, wc', E.dice, E.sent⟩, N9, d9, g9, nextA p A (C.Z i), rfl, rfl, hlm, ⟨a1.below hby, fun e => ?_, HNX.out.2.2.1, a2, a5⟩, Own.later h1 hbwy, fun j hj => ?_, ⟨by omega, fun k hk hs => ?_⟩, h6.trans (hbwy.mono (by omega))⟩, HMi⟩
            · have e8 : gst = g9 := by injection e.symm
              omega
            · rw [hst j]
              unfold setS
              by_cases e : j = dn
              · rw [if_pos e, if_pos e, e]
                refine ⟨rfl, rfl, rfl, (own_kat h3).below hbwy, fun e1 => ?_, fun g o e1 => ?_⟩
                · have e1 : wp = none := e1
                  rcases Own.form h3 with ⟨_, q2⟩ | ⟨g', c', q1, q2, q3⟩
                  · exact ⟨q2, trivial⟩
                  · injection q1 with q4 q5 q6
                    rw [e1] at q4
                    cases q4
                · have e1 : wp = some ⟨g, o, none⟩ := e1
                  have hbb := Own.lt h3 g (by rw [e1]; rfl)
                  refine ⟨fun e9 => ?_, by omega⟩
                  have e8 : gst = g := by injection e9.symm
                  omega
              · rw [if_neg e, if_neg e]
                obtain ⟨s1, s2, s3, s4, s5, s6⟩ := i3 j hj
                refine ⟨s1, s2, s3, ?_, s5, fun g o e1 => ?_⟩
                · rcases s4 with q | ⟨bb, oo, e1, hl, hc⟩
                  · exact .inl q
                  · obtain ⟨q1, q3⟩ := s6 bb oo e1
                    refine .inr ⟨bb, oo, e1, by omega, fun j9 hj9 => (World.cell?_of_block ((hbwy.block bb (by omega)).trans ((h5.block bb (by omega) fun e9 => q1 (by rw [show bb = gst from e9]; rfl)).trans (h7.block bb hl)))).trans (hc j9 hj9)⟩
                · obtain ⟨q1, q3⟩ := s6 g o e1
                  exact ⟨q1, by omega⟩
            · exact (hbwy.block k (by omega)).trans ((h5.block k (by omega) fun e9 => hs (by rw [show k = gst from e9]; rfl)).trans ((h7.block k (by omega)).trans (i4.block k hk hs)))
    have dl1 : decide ((i : Int) < (C.m : Int)) = false := decide_eq_false (by omega)
    have dl2 : decide (i < C.m) = false := decide_eq_false hlm
    obtain rfl : i = C.m := by omega
    obtain ⟨B9, hB9, hZ9, hK9, hd9, hs9, e1, e2, e3⟩ := H6.out.1.last H6.out.2.2.2.2.2.2.2
    obtain rfl := hsteps.one hB9
    have hstp : ∀ j, stP p C.Z j C.m = (C.K j, C.d j, C.s j) := fun j => H6.out.1.stEnd j
    have hidl := idle_iff (p := p) hpnd.hp hpnd.set
    have hcb := steps_bu HPL.out.2.2.bu.1 hsteps
    obtain ⟨sq', sc', hsqe, hssB⟩ := own_ss (K := C.K) hrow (fun j hj => by have h9 := (hst j hj); rw [h9.1]; have h8 := h9.2.2.2.1; rw [hstp j] at h8; exact h8)
    obtain ⟨rfl, rfl⟩ : sq = sq' ∧ sc = sc' := by injection hsqe with a b c; exact ⟨a, c⟩
    have hssR := HSS.out.1.kb0 hkb (fun g o e hn => by
      rcases HSS.out.2.2 with h9 | ⟨b, o', e', hl, _⟩
      · omega
      · rw [e'] at e; injection e with e; injection e with q1 q2 q3; exact hgq g (by omega)) (fun j hj g o e hn => by
      rcases HSS.out.2.2 with h9 | ⟨b, o', e', hl, _, hk9⟩
      · omega
      · exact hgq g ((hk9 j hj).lt0 hn g o e))
    have HSA := sameStates_yes p.nq B CC C.K sq q1 sc c1 (by omega) (fun j hj => by rw [(hst j hj).1]; exact HPL.out.2.1.nw j hj) (fun j hj => by obtain ⟨u1, u2, u3⟩ := HSS.out.2.1 j hj; obtain ⟨v1, v2, v3, _⟩ := hst j hj; rw [hstp j] at v2 v3; exact ⟨u1.trans v1.symm, u2.trans v2.symm, u3.trans v3.symm⟩) wr hssB hssR
    have KT : ∀ W, Below wr.heap.size wr W → Hid ((W.cell? ⟨w.heap.size, 0, none⟩ = some (.int .i64 p.ki) ∧ W.cell? ⟨w.heap.size, 1, none⟩ = some (.slice v.pp p.np v.pc) ∧ W.cell? ⟨w.heap.size, 2, none⟩ = some (.slice v.tp p.nq v.tc) ∧ W.cell? ⟨w.heap.size, 3, none⟩ = some (.slice v.sp p.ns v.sc) ∧ W.cell? ⟨w.heap.size, 4, none⟩ = some (.int .u64 p.sd) ∧ W.cell? ⟨w.heap.size, 5, none⟩ = some (.int .u64 p.lk) ∧ W.cell? ⟨w.heap.size, 6, none⟩ = some (.int .u64 p.en) ∧ W.cell? ⟨w.heap.size, 7, none⟩ = some (.int .i64 p.bu) ∧ W.cell? ⟨w.heap.size, 8, none⟩ = some (.int .i64 p.fu)) ∧ (W.cell? ⟨g4, 0, none⟩ = some (.int .i64 kd) ∧ W.cell? ⟨g4, 1, none⟩ = some (.int .i64 cd) ∧ W.cell? ⟨g4, 2, none⟩ = some (.int .u64 x.t) ∧ W.cell? ⟨g4, 3, none⟩ = some (.int .i64 x.s) ∧ W.cell? ⟨g4, 4, none⟩ = some (.int .u64 x.q) ∧ W.cell? ⟨g4, 5, none⟩ = some (.int .i64 0) ∧ W.cell? ⟨g4, 6, none⟩ = some (.slice q1 p.nq c1) ∧ W.cell? ⟨g4, 7, none⟩ = some (.slice q3 C.m c3))) := fun W hb => by
      have e4 := (hb.block _ (lt_of_block hxp)).trans hxp
      have e5 := (hb.block _ (lt_of_block hxr)).trans hxr
      exact ⟨⟨cell_in e4 rfl, cell_in e4 rfl, cell_in e4 rfl, cell_in e4 rfl, cell_in e4 rfl, cell_in e4 rfl, cell_in e4 rfl, cell_in e4 rfl, cell_in e4 rfl⟩, cell_in e5 rfl, cell_in e5 rfl, cell_in e5 rfl, cell_in e5 rfl, cell_in e5 rfl, cell_in e5 rfl, cell_in e5 rfl, cell_in e5 rfl⟩
    have HSTP : Hid (∀ j, stP p C.Z j C.m = (A.K j, A.d j, A.s j)) := fun j => by rw [hstp j, hK9, hd9, hs9]
    have u0 : decide ((C.m : Int) > p.bu) = false := decide_eq_false (by omega)
    have u1 : decide (p.bu < (C.m : Int)) = false := decide_eq_false (by omega)
    have HBW : Hid (Below w.heap.size w wr) := hbw
    have a6 : wr.cell? ⟨g4, 6, none⟩ = some (.slice q1 p.nq c1) := cell_in hxr rfl
    have KL : Hid (∀ W, Below wr.heap.size wr W → 0 < n → W.cell? ⟨gl, 0, none⟩ = some (.int .u64 (X 0).t) ∧ W.cell? ⟨gl, 1, none⟩ = some (.int .i64 (X 0).s) ∧ W.cell? ⟨gl, 2, none⟩ = some (.int .u64 (X 0).q) ∧ W.cell? ⟨gl, 3, none⟩ = some (.int .i64 (X 0).d) ∧ W.cell? ⟨gl, 4, none⟩ = some (.int .i64 (X 0).k) ∧ W.cell? ⟨gl, 5, none⟩ = some (.int .i64 (X 0).v)) := fun W hb h0 => by
      rcases hleft.below hb with h9 | ⟨b, o, e, hl, hc⟩
      · omega
      · injection e with e
        injection e with e4 e5 e6
        subst e4 e5
        have h9 := SIn.six hc h0
        simpa only [Nat.zero_mul, Nat.add_zero, Nat.zero_add] using h9
    have HT9 : Hid (StepsR p (fstA p) C.m A ∧ Pnd A n X ∧ AOk2 p A ∧ Own wr w4.heap.size 46 3 (.slice sq p.nq sc) p.nq (saF B) ∧ (∀ j, j < p.nq → (B j).n = p.nw j ∧ (B j).d = (stP p C.Z j C.m).2.1 ∧ (B j).s = (stP p C.Z j C.m).2.2 ∧ KAt wr (B j).p (p.nw j) (stP p C.Z j C.m).1 ∧ ((B j).p = none → p.nw j = 0 ∧ True) ∧ ∀ g o, (B j).p = some ⟨g, o, none⟩ → some g ≠ (Value.slice sq p.nq sc).ownBlock ∧ g < wr.heap.size)) := ⟨hsteps, hpnd, haok, hrow, hst⟩
    have HE : Hid ((Idle p A → kd = 1 ∧ cd = 0 ∧ x = zeroE) ∧ (¬ Idle p A → Spent p A → kd = 2 ∧ cd = 0 ∧ x = zeroE) ∧ (¬ Idle p A → ¬ Spent p A → kd = 3 ∧ Lst A.M x ∧ cd = (effA p A x).code ∧ cd ≠ 0) ∧ (Idle p A ↔ n = 0 ∨ p.en ≤ (X 0).t) ∧ ((C.m : Int) ≤ p.bu) ∧ A.m = C.m) := ⟨e1, e2, e3, hidl, hcb, by have := hsteps.m; have h0 : (fstA p).m = 0 := rfl; omega⟩
    clear hleft hglb hsteps hpnd hrow hst hkb hbr hxp hxr hT hbw haok hB9 hZ9 hK9 hd9 hs9 e1 e2 e3 hstp hidl hcb hsqe hssB hssR hgq
    go_upto_region 21 with fail
    go_cut [105] from 88 to 105 (fun b wx => b = .bool false ∧ Below wr.heap.size wr wx)
    case first =>
      go_wp2_with (go_at_call 32; (with_reducible refine HSA.mono ?_); rintro e y1 ⟨rfl, hby1⟩; obtain ⟨⟨f0, f1, f2, f3, f4, f5, f6, f7, f8⟩, g0, g1, g2, g3, g4', g5, g6, g7⟩ := (KT y1 hby1).out)
      go_meet
      case rel => exact ⟨rfl, hby1⟩
    case rest =>
      obtain ⟨rfl, hb21⟩ := hcut
      obtain ⟨wt, rfl⟩ : ∃ wt, wt = wc := ⟨_, rfl⟩
      have HB21 : Hid (Below wr.heap.size wr wt) := hb21
      obtain ⟨⟨f0, f1, f2, f3, f4, f5, f6, f7, f8⟩, g0, g1, g2, g3, g4', g5, g6, g7⟩ := (KT wt hb21).out
      clear a6 a7 HSA hb21 dl1 dl2
      by_cases hid : Idle p A
      case pos =>
        obtain ⟨hk, hc, hx⟩ := HE.out.1 hid
        subst hk
        subst hc
        subst hx
        have g2' : wt.cell? ⟨g4, 2, none⟩ = some (.int .u64 0) := g2
        have g3' : wt.cell? ⟨g4, 3, none⟩ = some (.int .i64 0) := g3
        have g4'' : wt.cell? ⟨g4, 4, none⟩ = some (.int .u64 0) := g4'
        have ek : ∀ W, (binOp .eql 32 (.agg #[.int .u64 0, .int .i64 0, .int .u64 0]) (.agg #[.int .u64 0, .int .i64 0, .int .u64 0])).run Tryz.prog W = .ok (.bool true) W := fun W => eql_key_same 0 0 0 W
        clear g2 g3 g4'
        rcases HE.out.2.2.2.1.1 hid with hn | hen
        · have HN9 : Hid (n = 0) := hn
          clear hid
          subst hn
          go_upto_region 23 with fail
          go_quiet (fail)
          go_wp2_with fail
          go_ret
          exact ⟨rfl, HBW.out.trans ((HB21.out.trans ((below_drewNq _ wt _).mono HB21.out.size)).mono HBW.out.size)⟩
        · by_cases hn : n = 0
          · clear hid hen
            subst hn
            go_upto_region 23 with fail
            go_quiet (fail)
            go_wp2_with fail
            go_ret
            exact ⟨rfl, HBW.out.trans ((HB21.out.trans ((below_drewNq _ wt _).mono HB21.out.size)).mono HBW.out.size)⟩
          have q0 : ((n : Int) == 0) = false := by simp; omega
          have q0' : (n == 0) = false := by simp; omega
          have n0 : (0 : Int) < (n : Int) := by omega
          have q1 : decide ((X 0).t ≥ p.en) = true := decide_eq_true hen
          have q2 : decide (p.en ≤ (X 0).t) = true := decide_eq_true hen
          obtain ⟨x0, x1, x2, x3, x4, x5⟩ := KL.out wt HB21.out (by omega)
          clear hid hen hn
          go_upto_region 23 with fail
          go_quiet (fail)
          go_wp2_with fail
          go_ret
          exact ⟨rfl, HBW.out.trans ((HB21.out.trans ((below_drewNq _ wt _).mono HB21.out.size)).mono HBW.out.size)⟩
      have hnid : ¬ (n = 0 ∨ p.en ≤ (X 0).t) := fun e => hid (HE.out.2.2.2.1.2 e)
      have hn : n ≠ 0 := fun e => hnid (.inl e)
      have q0 : ((n : Int) == 0) = false := by simp; omega
      have q0' : (n == 0) = false := by simp; omega
      have n0 : (0 : Int) < (n : Int) := by omega
      have hen : ¬ p.en ≤ (X 0).t := fun e => hnid (.inr e)
      have q1 : decide ((X 0).t ≥ p.en) = false := decide_eq_false hen
      have q2 : decide (p.en ≤ (X 0).t) = false := decide_eq_false hen
      have HN0 : Hid (0 < n) := Nat.pos_of_ne_zero hn
      obtain ⟨x0, x1, x2, x3, x4, x5⟩ := KL.out wt HB21.out (by omega)
      by_cases hsp : Spent p A
      case pos =>
        obtain ⟨hk, hc, hx⟩ := HE.out.2.1 hid hsp
        subst hk
        subst hc
        subst hx
        have g2' : wt.cell? ⟨g4, 2, none⟩ = some (.int .u64 0) := g2
        have g3' : wt.cell? ⟨g4, 3, none⟩ = some (.int .i64 0) := g3
        have g4'' : wt.cell? ⟨g4, 4, none⟩ = some (.int .u64 0) := g4'
        have ek : ∀ W, (binOp .eql 32 (.agg #[.int .u64 0, .int .i64 0, .int .u64 0]) (.agg #[.int .u64 0, .int .i64 0, .int .u64 0])).run Tryz.prog W = .ok (.bool true) W := fun W => eql_key_same 0 0 0 W
        have hbe : p.bu ≤ (A.m : Int) := hsp
        have hb1 : ((C.m : Int) == p.bu) = true := by have h1 := HE.out.2.2.2.2.1; have h2 := HE.out.2.2.2.2.2; simp; omega
        clear g2 g3 g4' hid hsp hbe hen hn hnid
        go_upto_region 23 with fail
        go_quiet (fail)
        go_wp2_with fail
        go_ret
        exact ⟨rfl, HBW.out.trans ((HB21.out.trans ((below_drewNq _ wt _).mono HB21.out.size)).mono HBW.out.size)⟩
      obtain ⟨hk, hlst, hcd, hcd0⟩ := HE.out.2.2.1 hid hsp
      subst hk
      have hX0 := (HT9.out.2.1.least HT9.out.2.2.1 hlst).2
      rw [hX0] at x0 x1 x2 x3 x4 x5 q1 q2
      have hF := fitE HPL.out.2.2 HT9.out.2.2.1 hlst.1
      obtain ⟨dn, hdn⟩ : ∃ dn, x.d.toNat = dn := ⟨_, rfl⟩
      have hd0 : x.d = (dn : Int) := by have := hF.dn.2; omega
      have hdq : dn < p.nq := by have := hF.dn.1; omega
      obtain ⟨E, hE⟩ : ∃ E, effA p A x = E := ⟨_, rfl⟩
      rw [hE] at hcd
      subst hcd
      have hb1 : ((C.m : Int) == p.bu) = false := by
        have h1 := HE.out.2.2.2.2.1
        have h2 := HE.out.2.2.2.2.2
        have h3 : ¬ p.bu ≤ (A.m : Int) := hsp
        simp
        omega
      have HFX : Hid (FitE p A x ∧ x.d.toNat = dn ∧ x.d = (dn : Int) ∧ effA p A x = E ∧ X 0 = x) := ⟨hF, hdn, hd0, hE, hX0⟩
      have ec : (E.code != 0) = true := by simpa using hcd0
      have ec2 : (E.code == E.code) = true := by simp
      rw [hd0] at x3
      obtain ⟨gst, hsq⟩ : ∃ gst, sq = some ⟨gst, 0, none⟩ := by
        rcases Own.form HT9.out.2.2.2.1 with ⟨_, h2⟩ | ⟨g', c', h1, h2, h3⟩
        · omega
        · injection h1 with e1 e2 e3
          exact ⟨g', e1⟩
      subst hsq
      clear hid hsp hen hn hnid hlst hcd0 hF hdn hd0 hE hX0
      go_upto_region 23 with fail
      go_cut [118] from 106 to 118 (fun b wx => b = .bool false ∧ Below wt.heap.size wt wx)
      case first =>
        go_quiet (fail)
        go_wp2_with fail
        go_meet
        exact ⟨rfl, below_drewNq _ _ _⟩
      case rest =>
        obtain ⟨rfl, hbq⟩ := hcut
        obtain ⟨wq, rfl⟩ : ∃ wq, wq = wc := ⟨_, rfl⟩
        have hbrq : Below wr.heap.size wr wq := HB21.out.trans (hbq.mono HB21.out.size)
        obtain ⟨hF, hdn, hd0, hE, hX0⟩ := HFX.out
        obtain ⟨k1, k2, k3, k4, k5⟩ := HT9.out
        obtain ⟨s1, s2, s3, s4, s5, s6⟩ := k5 dn hdq
        rw [HSTP.out dn] at s2 s3 s4
        have hpr := hF.pr
        obtain ⟨gg1, gg2, gg3⟩ := HPL.out.2.2.gt.2 dn hdq
        have ha64 := hF.a64
        have hpg : pgA p x = p.P (p.pr dn).toNat := by unfold pgA; rw [hdn]
        rw [hpg] at ha64
        rw [hdn] at hpr
        obtain ⟨pn, hpn⟩ : ∃ pn : Nat, p.pr dn = (pn : Int) := ⟨(p.pr dn).toNat, by omega⟩
        have hpn2 : (p.pr dn).toNat = pn := by omega
        rw [hpn2] at ha64 hpr hpg
        have hE2 : effP (p.P pn) (clA p x) (p.nw dn) (A.K dn) (A.d dn) (A.s dn) = E := by
          rw [← hE]
          unfold effA
          rw [hpg, hdn]
        have hsn := hF.s0
        rw [hdn] at hsn
        have HRUN : ∀ W, Below wq.heap.size wq W → Hid (Calls Tryz.prog 19 #[.agg #[.int .i64 p.ki, .slice v.pp p.np v.pc, .slice v.tp p.nq v.tc, .slice v.sp p.ns v.sc, .int .u64 p.sd, .int .u64 p.lk, .int .u64 p.en, .int .i64 p.bu, .int .i64 p.fu], .agg #[.int .u64 x.t, .int .i64 x.s, .int .u64 x.q, .int .i64 (dn : Int), .int .i64 x.k, .int .i64 x.v], .agg #[.slice (B dn).p (p.nw dn) (B dn).c, .int .u64 (A.d dn), .int .u64 (A.s dn)]] W fun r w' => ∃ (wp : Option Addr) (wc : Nat) (ou : Option Addr) (oc : Nat), r = .returned (.agg #[.int .i64 E.code, .slice wp E.nw wc, .int .u64 E.dice, .int .u64 E.sent, .slice ou E.on oc, .int .i64 E.used]) ∧ Own w' W.heap.size 2 1 (.slice wp E.nw wc) E.nw (iv E.wd) ∧ Own w' W.heap.size 39 6 (.slice ou E.on oc) E.on E.oF ∧ Below W.heap.size W w') := fun W hb => by
          have hbW : Below wr.heap.size wr W := hbrq.trans (hb.mono hbrq.size)
          have hb9' : Below w.heap.size w W := HBW.out.trans (hbW.mono HBW.out.size)
          exact hrun_any p v W (HPL.out.1.below hb9') x dn pn hd0 hdq hpn hpr (B dn).p (p.nw dn) (B dn).c (A.K dn) (A.d dn) (A.s dn) ⟨s4.below hbW, s5, HPL.out.2.1.nw dn hdq, hF.ok, k3.wd dn hdq, k3.dc dn hdq, by have := k3.m; exact ⟨by omega, by omega⟩⟩ ha64 E hE2
        have KS : ∀ W, Below wq.heap.size wq W → ((W.cell? ⟨w.heap.size, 0, none⟩ = some (.int .i64 p.ki) ∧ W.cell? ⟨w.heap.size, 1, none⟩ = some (.slice v.pp p.np v.pc) ∧ W.cell? ⟨w.heap.size, 2, none⟩ = some (.slice v.tp p.nq v.tc) ∧ W.cell? ⟨w.heap.size, 3, none⟩ = some (.slice v.sp p.ns v.sc) ∧ W.cell? ⟨w.heap.size, 4, none⟩ = some (.int .u64 p.sd) ∧ W.cell? ⟨w.heap.size, 5, none⟩ = some (.int .u64 p.lk) ∧ W.cell? ⟨w.heap.size, 6, none⟩ = some (.int .u64 p.en) ∧ W.cell? ⟨w.heap.size, 7, none⟩ = some (.int .i64 p.bu) ∧ W.cell? ⟨w.heap.size, 8, none⟩ = some (.int .i64 p.fu)) ∧ (W.cell? ⟨gl, 0, none⟩ = some (.int .u64 x.t) ∧ W.cell? ⟨gl, 1, none⟩ = some (.int .i64 x.s) ∧ W.cell? ⟨gl, 2, none⟩ = some (.int .u64 x.q) ∧ W.cell? ⟨gl, 3, none⟩ = some (.int .i64 (dn : Int)) ∧ W.cell? ⟨gl, 4, none⟩ = some (.int .i64 x.k) ∧ W.cell? ⟨gl, 5, none⟩ = some (.int .i64 x.v)) ∧ W.cell? ⟨gst, dn * 3, none⟩ = some (.slice (B dn).p (p.nw dn) (B dn).c) ∧ W.cell? ⟨gst, dn * 3 + 1, none⟩ = some (.int .u64 (A.d dn)) ∧ W.cell? ⟨gst, dn * 3 + 2, none⟩ = some (.int .u64 (A.s dn))) := fun W hb => by
          have hbW : Below wr.heap.size wr W := hbrq.trans (hb.mono hbrq.size)
          obtain ⟨t0, t1, t2⟩ := ARow.cells (Own.later k4 hbW) hdq
          rw [s1] at t0
          rw [s2] at t1
          rw [s3] at t2
          have h9 := KL.out W hbW HN0.out
          rw [hX0, hd0] at h9
          exact ⟨(KT W hbW).out.1, h9, t0, t1, t2⟩
        have j0 : (0 : Int) ≤ (dn : Int) := by omega
        have j1 : (dn : Int) < (p.nq : Int) := by omega
        have HBQ : Hid (Below wr.heap.size wr wq) := hbrq
        obtain ⟨iF, hF1, hF2, hF3, hF4⟩ := sinfo infoEF
        have hbdq : Below wq.heap.size wq wq.drew := (Below.refl _ wq).drew
        have ek : ∀ W, (binOp .eql 32 (.agg #[.int .u64 x.t, .int .i64 x.s, .int .u64 x.q]) (.agg #[.int .u64 x.t, .int .i64 x.s, .int .u64 x.q])).run Tryz.prog W = .ok (.bool true) W := fun W => eql_key_same x.t x.s x.q W
        clear x0 x1 x2 x3 x4 x5 f0 f1 f2 f3 f4 f5 f6 f7 f8 g0 g1 g2 g3 g4' g5 g6 g7 hF hdn hd0 hE hX0 k1 k2 k3 k4 k5 s1 s2 s3 s4 s5 s6 hpr gg1 gg2 gg3 ha64 hpg hpn hpn2 hE2 hsn hbq hbrq
        obtain ⟨⟨f0, f1, f2, f3, f4, f5, f6, f7, f8⟩, g0, g1, g2, g3, g4', g5, g6, g7⟩ := (KT wq HBQ.out).out
        go_upto_region 27 with fail
        clear f0 f1 f2 f3 f4 f5 f6 f7 f8 g0 g1 g2 g3 g4' g5 g6 g7
        go_cut [9] from 153 to 164 (fun x8 wx => ∃ (fb : Nat) (wp : Option Addr) (wc : Nat) (ou : Option Addr) (oc bw : Nat), x8 = .pointer (some ⟨fb, 0, none⟩) ∧ wx.heap[fb]? = some (.cells #[.int .i64 E.code, .slice wp E.nw wc, .int .u64 E.dice, .int .u64 E.sent, .slice ou E.on oc, .int .i64 E.used] 48 (0, 0)) ∧ Own wx bw 2 1 (.slice wp E.nw wc) E.nw (iv E.wd) ∧ Own wx bw 39 6 (.slice ou E.on oc) E.on E.oF ∧ Below wq.heap.size wq wx ∧ wq.heap.size ≤ bw ∧ wq.heap.size ≤ fb)
        case first =>
          refine wp_region_held_drew (S := fun W9 => Below wq.heap.size wq W9) (by kernel_rfl) hbdq (fun hHeld => ?_)
          have hS0 : Below wq.heap.size wq wq.drew := hHeld
          refine wpAnyH_take (i := 0) (v := ?hv0f) rfl (by kernel_rfl) (by kernel_rfl) (by kernel_rfl) (fun _ _ _ h => h) (Or.inl ⟨by rfl, ?hy0f⟩) (by assumption) ?hr0f
          case hy0f => ((intro W9 hSw; have n0n : 0 < n := HN0.out; obtain ⟨⟨f0, f1, f2, f3, f4, f5, f6, f7, f8⟩, ⟨y0, y1, y2, y3, y4, y5⟩, b0, b1, b2⟩ := KS W9 hSw; go_simp); try with_reducible rfl)
          simp only [List.getElem_toArray, List.getElem_cons_zero, List.getElem_cons_succ, Act.put, List.setIfInBounds_toArray, List.set_cons_zero, List.set_cons_succ]
          refine wpAnyH_take (i := 1) (v := ?hv1f) rfl (by kernel_rfl) (by kernel_rfl) (by kernel_rfl) (fun _ _ _ h => h) (Or.inl ⟨by rfl, ?hy1f⟩) (by assumption) ?hr1f
          case hy1f => ((intro W9 hSw; have n0n : 0 < n := HN0.out; obtain ⟨⟨f0, f1, f2, f3, f4, f5, f6, f7, f8⟩, ⟨y0, y1, y2, y3, y4, y5⟩, b0, b1, b2⟩ := KS W9 hSw; go_simp); try with_reducible rfl)
          simp only [List.getElem_toArray, List.getElem_cons_zero, List.getElem_cons_succ, Act.put, List.setIfInBounds_toArray, List.set_cons_zero, List.set_cons_succ]
          refine wpAnyH_take (i := 2) (v := ?hv2f) rfl (by kernel_rfl) (by kernel_rfl) (by kernel_rfl) (fun _ _ _ h => h) (Or.inl ⟨by rfl, ?hy2f⟩) (by assumption) ?hr2f
          case hy2f => ((intro W9 hSw; have n0n : 0 < n := HN0.out; obtain ⟨⟨f0, f1, f2, f3, f4, f5, f6, f7, f8⟩, ⟨y0, y1, y2, y3, y4, y5⟩, b0, b1, b2⟩ := KS W9 hSw; go_simp); try with_reducible rfl)
          simp only [List.getElem_toArray, List.getElem_cons_zero, List.getElem_cons_succ, Act.put, List.setIfInBounds_toArray, List.set_cons_zero, List.set_cons_succ]
          refine wpAnyH_take (i := 3) (v := ?hv3f) rfl (by kernel_rfl) (by kernel_rfl) (by kernel_rfl) (fun _ _ _ h => h) (Or.inl ⟨by rfl, ?hy3f⟩) (by assumption) ?hr3f
          case hy3f => ((intro W9 hSw; have n0n : 0 < n := HN0.out; obtain ⟨⟨f0, f1, f2, f3, f4, f5, f6, f7, f8⟩, ⟨y0, y1, y2, y3, y4, y5⟩, b0, b1, b2⟩ := KS W9 hSw; go_simp); try with_reducible rfl)
          simp only [List.getElem_toArray, List.getElem_cons_zero, List.getElem_cons_succ, Act.put, List.setIfInBounds_toArray, List.set_cons_zero, List.set_cons_succ]
          refine wpAnyH_take (i := 4) (v := ?hv4f) rfl (by kernel_rfl) (by kernel_rfl) (by kernel_rfl) (fun _ _ _ h => h) (Or.inl ⟨by rfl, ?hy4f⟩) (by assumption) ?hr4f
          case hy4f => ((intro W9 hSw; have n0n : 0 < n := HN0.out; obtain ⟨⟨f0, f1, f2, f3, f4, f5, f6, f7, f8⟩, ⟨y0, y1, y2, y3, y4, y5⟩, b0, b1, b2⟩ := KS W9 hSw; go_simp); try with_reducible rfl)
          simp only [List.getElem_toArray, List.getElem_cons_zero, List.getElem_cons_succ, Act.put, List.setIfInBounds_toArray, List.set_cons_zero, List.set_cons_succ]
          refine wpAnyH_take (i := 5) (v := ?hv5f) rfl (by kernel_rfl) (by kernel_rfl) (by kernel_rfl) (fun _ _ _ h => h) (Or.inl ⟨by rfl, ?hy5f⟩) (by assumption) ?hr5f
          case hy5f => ((intro W9 hSw; have n0n : 0 < n := HN0.out; obtain ⟨⟨f0, f1, f2, f3, f4, f5, f6, f7, f8⟩, ⟨y0, y1, y2, y3, y4, y5⟩, b0, b1, b2⟩ := KS W9 hSw; go_simp); try with_reducible rfl)
          simp only [List.getElem_toArray, List.getElem_cons_zero, List.getElem_cons_succ, Act.put, List.setIfInBounds_toArray, List.set_cons_zero, List.set_cons_succ]
          refine wpAnyH_take (i := 6) (v := ?hv6f) rfl (by kernel_rfl) (by kernel_rfl) (by kernel_rfl) (fun _ _ _ h => h) (Or.inl ⟨by rfl, ?hy6f⟩) (by assumption) ?hr6f
          case hy6f => ((intro W9 hSw; have n0n : 0 < n := HN0.out; obtain ⟨⟨f0, f1, f2, f3, f4, f5, f6, f7, f8⟩, ⟨y0, y1, y2, y3, y4, y5⟩, b0, b1, b2⟩ := KS W9 hSw; go_simp); try with_reducible rfl)
          simp only [List.getElem_toArray, List.getElem_cons_zero, List.getElem_cons_succ, Act.put, List.setIfInBounds_toArray, List.set_cons_zero, List.set_cons_succ]
          refine wpAnyH_take (i := 7) (v := ?hv7f) rfl (by kernel_rfl) (by kernel_rfl) (by kernel_rfl) (fun _ _ _ h => h) (Or.inl ⟨by rfl, ?hy7f⟩) (by assumption) ?hr7f
          case hy7f => ((intro W9 hSw; have n0n : 0 < n := HN0.out; obtain ⟨⟨f0, f1, f2, f3, f4, f5, f6, f7, f8⟩, ⟨y0, y1, y2, y3, y4, y5⟩, b0, b1, b2⟩ := KS W9 hSw; go_simp); try with_reducible rfl)
          simp only [List.getElem_toArray, List.getElem_cons_zero, List.getElem_cons_succ, Act.put, List.setIfInBounds_toArray, List.set_cons_zero, List.set_cons_succ]
          refine wpAnyH_take (i := 8) (v := ?hv8f) rfl (by kernel_rfl) (by kernel_rfl) (by kernel_rfl) (fun _ _ _ h => h) (Or.inl ⟨by rfl, ?hy8f⟩) (by assumption) ?hr8f
          case hy8f => ((intro W9 hSw; have n0n : 0 < n := HN0.out; obtain ⟨⟨f0, f1, f2, f3, f4, f5, f6, f7, f8⟩, ⟨y0, y1, y2, y3, y4, y5⟩, b0, b1, b2⟩ := KS W9 hSw; go_simp); try with_reducible rfl)
          simp only [List.getElem_toArray, List.getElem_cons_zero, List.getElem_cons_succ, Act.put, List.setIfInBounds_toArray, List.set_cons_zero, List.set_cons_succ]
          refine wpAnyH_take (i := 9) (v := ?hv9f) rfl (by kernel_rfl) (by kernel_rfl) (by kernel_rfl) (fun _ _ _ h => h) (Or.inl ⟨by rfl, ?hy9f⟩) (by assumption) ?hr9f
          case hy9f => ((intro W9 hSw; have n0n : 0 < n := HN0.out; obtain ⟨⟨f0, f1, f2, f3, f4, f5, f6, f7, f8⟩, ⟨y0, y1, y2, y3, y4, y5⟩, b0, b1, b2⟩ := KS W9 hSw; go_simp); try with_reducible rfl)
          simp only [List.getElem_toArray, List.getElem_cons_zero, List.getElem_cons_succ, Act.put, List.setIfInBounds_toArray, List.set_cons_zero, List.set_cons_succ]
          refine wpAnyH_take (i := 10) (v := ?hv10f) rfl (by kernel_rfl) (by kernel_rfl) (by kernel_rfl) (fun _ _ _ h => h) (Or.inl ⟨by rfl, ?hy10f⟩) (by assumption) ?hr10f
          case hy10f => ((intro W9 hSw; have n0n : 0 < n := HN0.out; obtain ⟨⟨f0, f1, f2, f3, f4, f5, f6, f7, f8⟩, ⟨y0, y1, y2, y3, y4, y5⟩, b0, b1, b2⟩ := KS W9 hSw; go_simp); try with_reducible rfl)
          simp only [List.getElem_toArray, List.getElem_cons_zero, List.getElem_cons_succ, Act.put, List.setIfInBounds_toArray, List.set_cons_zero, List.set_cons_succ]
          refine wpAnyH_ready (rs := [11, 12]) (by kernel_rfl) (by simp) (AllReadyH.cons rfl (fun KK9 hK => ?_) (AllReadyH.cons rfl (fun KK9 hK => ?_) AllReadyH.nil))
          all_goals dsimp -proj only [List.getElem_toArray, List.getElem_cons_zero, List.getElem_cons_succ]
          · go_simp
            go_at_call 19
            refine (HRUN wq.drew hS0).out.mono ?_
            rintro e x13 ⟨wp, wc, ou, oc, rfl, o113, o213, hb13⟩
            try go_wp2_with fail
            have hs13 : Below wq.heap.size wq x13 := hS0.trans (hb13.mono hS0.size)
            refine hK.out _ _ hs13 (fun hHeld => ?_)
            clear hK KK9
            try simp only [Act.put, List.setIfInBounds_toArray, List.set_cons_zero, List.set_cons_succ]
            refine wpAnyH_ready (rs := [12]) (by kernel_rfl) (by simp) (AllReadyH.cons rfl (fun KK9 hK => ?_) AllReadyH.nil)
            all_goals dsimp -proj only [List.getElem_toArray, List.getElem_cons_zero, List.getElem_cons_succ]
            · refine step_alloc_row rfl 48 rfl iF _ hF1 hF2 ?_
              obtain ⟨x14, hw14⟩ : ∃ x, (x13).alloc (.cells #[.int .i64 0, .slice none 0 0, .int .u64 0, .int .u64 0, .slice none 0 0, .int .i64 0] 48) = x := ⟨_, rfl⟩
              obtain ⟨hb14, hm14, hz14⟩ := boxed _ _ _ hw14
              have hs14 : Below wq.heap.size wq x14 := hs13.trans (hb14.mono hs13.size)
              have hfl14 : wq.heap.size ≤ (x13).heap.size := hs13.size
              have p114 := Own.later o113 hb14
              have p214 := Own.later o213 hb14
              show KK9 _ ((x13).alloc (.cells #[.int .i64 0, .slice none 0 0, .int .u64 0, .int .u64 0, .slice none 0 0, .int .i64 0] 48))
              rw [hw14]
              clear hw14
              refine hK.out _ _ hs14 (fun hHeld => ?_)
              clear hK KK9
              try simp only [Act.put, List.setIfInBounds_toArray, List.set_cons_zero, List.set_cons_succ]
              refine wpAnyH_ready (rs := [13]) (by kernel_rfl) (by simp) (AllReadyH.cons rfl (fun KK9 hK => ?_) AllReadyH.nil)
              all_goals dsimp -proj only [List.getElem_toArray, List.getElem_cons_zero, List.getElem_cons_succ]
              · refine step_store_row rfl 48 _ _ rfl (x13).heap.size _ rfl rfl 48 _ hm14 (by kernel_rfl) rfl (by kernel_rfl) ?_
                obtain ⟨x15, hw15⟩ : ∃ x, (x14).setRow (x13).heap.size #[.int .i64 E.code, .slice wp E.nw wc, .int .u64 E.dice, .int .u64 E.sent, .slice ou E.on oc, .int .i64 E.used] = x := ⟨_, rfl⟩
                have hm15 : x15.heap[(x13).heap.size]? = some (.cells #[.int .i64 E.code, .slice wp E.nw wc, .int .u64 E.dice, .int .u64 E.sent, .slice ou E.on oc, .int .i64 E.used] 48 (0, 0)) := by
                  rw [← hw15]
                  exact setRow_heap _ _ _ _ _ _ hm14
                have hs15 : Below wq.heap.size wq x15 := by
                  rw [← hw15]
                  exact setRow_below _ hs14 hfl14
                have r115 := Own.far (W' := x15) p114 fun k9 e9 => by
                  rw [← hw15]
                  refine setRow_far _ _ _ _ fun e8 => ?_
                  subst e8
                  have h1 := (Own.lt o113 _ e9).2
                  omega
                have r215 := Own.far (W' := x15) p214 fun k9 e9 => by
                  rw [← hw15]
                  refine setRow_far _ _ _ _ fun e8 => ?_
                  subst e8
                  have h1 := (Own.lt o213 _ e9).2
                  omega
                rw [hw15]
                clear hw15
                refine hK.out _ _ hs15 (fun hHeld => ?_)
                clear hK KK9
                try simp only [Act.put, List.setIfInBounds_toArray, List.set_cons_zero, List.set_cons_succ]
                refine wpAnyH_done (by kernel_rfl) ?_ _
                go_wp2_with fail
                go_meet
                case rel =>
                  exact ⟨(x13).heap.size, wp, wc, ou, oc, wq.drew.heap.size, rfl, hm15, r115, r215, hs15, hS0.size, hfl14⟩
          · refine step_alloc_row rfl 48 rfl iF _ hF1 hF2 ?_
            obtain ⟨x16, hw16⟩ : ∃ x, (wq.drew).alloc (.cells #[.int .i64 0, .slice none 0 0, .int .u64 0, .int .u64 0, .slice none 0 0, .int .i64 0] 48) = x := ⟨_, rfl⟩
            obtain ⟨hb16, hm16, hz16⟩ := boxed _ _ _ hw16
            have hs16 : Below wq.heap.size wq x16 := hS0.trans (hb16.mono hS0.size)
            have hfl16 : wq.heap.size ≤ (wq.drew).heap.size := hS0.size
            show KK9 _ ((wq.drew).alloc (.cells #[.int .i64 0, .slice none 0 0, .int .u64 0, .int .u64 0, .slice none 0 0, .int .i64 0] 48))
            rw [hw16]
            clear hw16
            refine hK.out _ _ hs16 (fun hHeld => ?_)
            clear hK KK9
            try simp only [Act.put, List.setIfInBounds_toArray, List.set_cons_zero, List.set_cons_succ]
            refine wpAnyH_ready (rs := [11]) (by kernel_rfl) (by simp) (AllReadyH.cons rfl (fun KK9 hK => ?_) AllReadyH.nil)
            all_goals dsimp -proj only [List.getElem_toArray, List.getElem_cons_zero, List.getElem_cons_succ]
            · go_simp
              go_at_call 19
              refine (HRUN x16 hs16).out.mono ?_
              rintro e x17 ⟨wp, wc, ou, oc, rfl, o117, o217, hb17⟩
              try go_wp2_with fail
              have hs17 : Below wq.heap.size wq x17 := hs16.trans (hb17.mono hs16.size)
              have hm17 := (hb17.block _ (lt_of_block hm16)).trans hm16
              have hno17 : (wq.drew).heap.size < x16.heap.size := lt_of_block hm16
              refine hK.out _ _ hs17 (fun hHeld => ?_)
              clear hK KK9
              try simp only [Act.put, List.setIfInBounds_toArray, List.set_cons_zero, List.set_cons_succ]
              refine wpAnyH_ready (rs := [13]) (by kernel_rfl) (by simp) (AllReadyH.cons rfl (fun KK9 hK => ?_) AllReadyH.nil)
              all_goals dsimp -proj only [List.getElem_toArray, List.getElem_cons_zero, List.getElem_cons_succ]
              · refine step_store_row rfl 48 _ _ rfl (wq.drew).heap.size _ rfl rfl 48 _ hm17 (by kernel_rfl) rfl (by kernel_rfl) ?_
                obtain ⟨x18, hw18⟩ : ∃ x, (x17).setRow (wq.drew).heap.size #[.int .i64 E.code, .slice wp E.nw wc, .int .u64 E.dice, .int .u64 E.sent, .slice ou E.on oc, .int .i64 E.used] = x := ⟨_, rfl⟩
                have hm18 : x18.heap[(wq.drew).heap.size]? = some (.cells #[.int .i64 E.code, .slice wp E.nw wc, .int .u64 E.dice, .int .u64 E.sent, .slice ou E.on oc, .int .i64 E.used] 48 (0, 0)) := by
                  rw [← hw18]
                  exact setRow_heap _ _ _ _ _ _ hm17
                have hs18 : Below wq.heap.size wq x18 := by
                  rw [← hw18]
                  exact setRow_below _ hs17 hfl16
                have r118 := Own.far (W' := x18) o117 fun k9 e9 => by
                  rw [← hw18]
                  refine setRow_far _ _ _ _ fun e8 => ?_
                  subst e8
                  have h1 := (Own.lt o117 _ e9).1
                  have h2 := hno17
                  omega
                have r218 := Own.far (W' := x18) o217 fun k9 e9 => by
                  rw [← hw18]
                  refine setRow_far _ _ _ _ fun e8 => ?_
                  subst e8
                  have h1 := (Own.lt o217 _ e9).1
                  have h2 := hno17
                  omega
                rw [hw18]
                clear hw18
                refine hK.out _ _ hs18 (fun hHeld => ?_)
                clear hK KK9
                try simp only [Act.put, List.setIfInBounds_toArray, List.set_cons_zero, List.set_cons_succ]
                refine wpAnyH_done (by kernel_rfl) ?_ _
                go_wp2_with fail
                go_meet
                case rel =>
                  exact ⟨(wq.drew).heap.size, wp, wc, ou, oc, x16.heap.size, rfl, hm18, r118, r218, hs18, hs16.size, hfl16⟩
        case rest =>
          obtain ⟨fb, wp, wc', ou, oc, bw, rfl, hfx, ho1, ho2, hbc, hbw, hfb⟩ := hcut
          obtain ⟨wx, rfl⟩ : ∃ wx, wx = wc := ⟨_, rfl⟩
          have hbrx : Below wr.heap.size wr wx := HBQ.out.trans (hbc.mono HBQ.out.size)
          obtain ⟨_, g0, g1, g2, g3, g4', g5, g6, g7⟩ := (KT wx hbrx).out
          have v0 : wx.cell? ⟨fb, 0, none⟩ = some (.int .i64 E.code) := cell_in hfx rfl
          obtain ⟨_, ⟨x0, x1, x2, x3, x4, x5⟩, _⟩ := KS wx hbc
          have HBX : Hid (Below wr.heap.size wr wx) := hbrx
          have n0n : 0 < n := HN0.out
          clear hfx ho1 ho2 hbc hbw hfb hbrx KS KT HRUN
          go_upto_region 28 with fail
          go_quiet (fail)
          go_wp2_with fail
          go_ret
          exact ⟨rfl, HBW.out.trans ((HBX.out.trans ((below_drewNq _ wx _).mono HBX.out.size)).mono HBW.out.size)⟩
theorem replays_law (p : Pl) (v : PlV) (w : World) (h : PlAt w p v) (hr : RoomyL p) (hok : VC p 0 → PlOk p) : Calls Tryz.prog 7 #[.agg #[.int .i64 p.ki, .slice v.pp p.np v.pc, .slice v.tp p.nq v.tc, .slice v.sp p.ns v.sc, .int .u64 p.sd, .int .u64 p.lk, .int .u64 p.en, .int .i64 p.bu, .int .i64 p.fu]] w fun e w' => e = .returned (.bool true) ∧ Below w.heap.size w w' := by
  obtain ⟨c0, hc0⟩ := VC.some p
  by_cases hz : c0 = 0
  · by_cases hbu : 150 < p.bu
    · exact replays_far p v w h c0 hc0 hz hbu
    · subst hz
      exact replays_good p v w h hr (hok hc0) hbu
  · exact replays_bad p v w h c0 hc0 hz
end Go.Proofs.YtagchghhpggnlaaGreat
