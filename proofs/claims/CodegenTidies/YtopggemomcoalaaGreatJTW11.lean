import Derived.Test.YtopggemomcoalaaGreatJVB
import Derived.Lib.AppendZerosOnto
import Derived.Test.YtopggemomcoalaaGreatJTW4
import Derived.Maps.AppendAt
namespace Go.Proofs.YtopggemomcoalaaGreat
open Go.ChangeShapes Go.WideShapes Go.ChangeAt Go.RowKit
set_option linter.unusedVariables false

theorem run_append_room_zeros {P : Program} (w : World) (t tn ty e : TypeId) (i : TypeInfo) (z : Value) (kq kn : IntKind) (ht : P.underlying t = some (.slice e)) (htn : P.underlying tn = some (.int kn)) (hi : P.info? e = some i) (hz : i.zero = some z)
    (g sLen sCap : Nat) (cur : Array Value) (hg : w.heap[g]? = some (.cells cur e (0, 0))) (k : Nat) (h0 : 0 < k) (hs : 0 < i.size) (h63 : (k : Int) ≤ 9223372036854775807) (h48 : k * i.bytes ≤ 281474976710656)
    (h1 : ∀ u ∈ (Builtin.zeroCells z.cells k).toList, u.oneCell' = true) (hroom : sLen + k ≤ sCap) (hfit : sLen * i.size + (Builtin.zeroCells z.cells k).toList.length ≤ cur.size) :
    (Builtin.append_ #[t, tn] ty #[.slice (some ⟨g, 0, none⟩) sLen sCap, .int kq k]).run P w =
      .ok (.slice (some ⟨g, 0, none⟩) (sLen + k) sCap) (w.setRow g (cur.toList.take (sLen * i.size) ++ (Builtin.zeroCells z.cells k).toList ++ cur.toList.drop (sLen * i.size + (Builtin.zeroCells z.cells k).toList.length)).toArray) := by
  have hst := run_storeCells_at P g (sLen * i.size) e (Builtin.zeroCells z.cells k).toList 0 cur w hg (by simpa using hfit) h1
  simp only [Nat.add_zero] at hst
  have hk : k ≠ 0 := by omega
  have hw : IntKind.i64.wrap (k : Int) = k := by rw [IntKind.wrap_i64]; omega
  have h48i : ¬ (281474976710656 < (k : Int) * (i.bytes : Int)) := by
    rw [← Int.natCast_mul]
    omega
  have hneg : ¬ ((k : Int) < 0) := by omega
  have hns : ¬ (k * i.size = 0) := Nat.mul_ne_zero hk (by omega)
  simp [Builtin.append_, run_underlying ht, run_underlying htn, sizeOf, typeInfo, zeroValue, hi, hz, asInt, asIntOf, hw, hroom, hneg, hns, h48i, Addr.add_lit, hst]

theorem run_append_own_zeros {P : Program} (w : World) (base : Nat) (t tn ty e : TypeId) (i : TypeInfo) (z : Value) (kq kn : IntKind) (size bytes : Nat) (ht : P.underlying t = some (.slice e)) (htn : P.underlying tn = some (.int kn)) (hi : P.info? e = some i) (hz : i.zero = some z)
    (hsize : i.size = size) (hby : i.bytes = bytes) (hzs : z.cells.size = size) (hsz : 0 < size) (v : Value) (n : Nat) (xs : List Value) (hown : w.ownsRow base e size v n xs) (k : Nat) (h0 : 0 < k)
    (h1 : ∀ u ∈ (Builtin.zeroCells z.cells k).toList, u.oneCell' = true) (h63 : n + k ≤ maxLen) (hbytes : (n + k) * bytes ≤ 140737488355328) (hbase : base ≤ w.heap.size) :
    ∃ v' w', (Builtin.append_ #[t, tn] ty #[v, .int kq k]).run P w = .ok v' w' ∧ w'.ownsRow base e size v' (n + k) (xs ++ (Builtin.zeroCells z.cells k).toList) ∧ w.grownBy w' v.ownBlock ∧ (v'.ownBlock = v.ownBlock ∨ v'.ownBlock = some w.heap.size) ∧ w'.ownsRow base e size v n xs := by
  subst hsize
  subst hby
  have hl : (Builtin.zeroCells z.cells k).toList.length = k * i.size := by rw [Array.length_toList, size_zeroCells, hzs]
  have hsmall : n + k ≤ 9223372036854775807 := by simp only [maxLen] at h63; omega
  have hb1 : k * i.bytes ≤ 281474976710656 := by have := Nat.mul_le_mul_right i.bytes (Nat.le_add_left k n); omega
  have hlen : (xs ++ (Builtin.zeroCells z.cells k).toList).length = (n + k) * i.size := by rw [List.length_append, hown.1, hl, Nat.add_mul]
  have grown : ∀ (old : Nat), old < n + k → ∀ (row : Option Nat),
      (w.drew.alloc (.cells (xs.toArray ++ Builtin.zeroCells z.cells k ++ Builtin.zeroCells z.cells (grownCap w (n + k) old e - (n + k))) e)).ownsRow base e i.size
        (.slice (some ⟨w.heap.size, 0, none⟩) (n + k) (grownCap w (n + k) old e)) (n + k) (xs ++ (Builtin.zeroCells z.cells k).toList) ∧
      w.grownBy (w.drew.alloc (.cells (xs.toArray ++ Builtin.zeroCells z.cells k ++ Builtin.zeroCells z.cells (grownCap w (n + k) old e - (n + k))) e)) row := by
    intro old ho row
    have hge := grownCap_ge w (n + k) old e
    have hcm : grownCap w (n + k) old e ≤ maxLen := grownCap_le_maxLen w (n + k) old e h63
    refine ⟨⟨hlen, .inr ⟨w.heap.size, _, _, rfl, hbase, heap_alloc_new w.drew _, hge, hcm, ?_, ?_⟩⟩, ⟨rfl, rfl, rfl, by simp, fun j hj _ => Below.heap_alloc w.drew _ j hj⟩⟩
    · simp only [Array.size_append, List.size_toArray, size_zeroCells, hzs, hown.1, ← Nat.add_mul]
      congr 1
      omega
    · simp only [Array.toList_append, List.append_assoc]
      rw [← List.append_assoc, ← hlen]
      exact List.take_left
  rcases hown.2 with ⟨rfl, rfl⟩ | ⟨g, cap, cur, rfl, hbg, hg, hnc, hcm, hcs, htake⟩
  · have hx : xs = [] := List.eq_nil_of_length_eq_zero (by simpa using hown.1)
    subst hx
    have hr := Lib.run_append_nil_zeros (P := P) w t tn ty e i z kq kn ht htn hi hz k h0 hsz (by omega) hb1
    have hgr := grown 0 (by omega) (Value.ownBlock (.slice none 0 0))
    simp only [Nat.zero_add, List.nil_append, Array.empty_append] at hgr ⊢
    exact ⟨_, _, hr, hgr.1, hgr.2, Or.inr rfl, World.ownsRow_nil _ _ _ _⟩
  · by_cases hroom : n + k ≤ cap
    · have hfit : n * i.size + (Builtin.zeroCells z.cells k).toList.length ≤ cur.size := by rw [hl, hcs, ← Nat.add_mul]; exact Nat.mul_le_mul_right _ hroom
      have hr := run_append_room_zeros (P := P) w t tn ty e i z kq kn ht htn hi hz g n cap cur hg k h0 hsz (by omega) hb1 h1 hroom hfit
      refine ⟨_, _, hr, ⟨hlen, .inr ⟨g, cap, _, rfl, hbg, setRow_heap w g cur _ e _ hg, hroom, hcm, ?_, ?_⟩⟩, ⟨rfl, rfl, rfl, by simp, fun k _ hk => setRow_other w g k _ (fun e => hk (by simp [Value.ownBlock, e]))⟩, Or.inl rfl, ⟨hown.1, .inr ⟨g, cap, _, rfl, hbg, setRow_heap w g cur _ e _ hg, hnc, hcm, ?_, ?_⟩⟩⟩
      · simp only [List.size_toArray, List.length_append, List.length_take, List.length_drop, Array.length_toList]
        rw [Array.length_toList] at hfit
        omega
      · rw [htake, ← hlen]
        exact List.take_left
      · simp only [List.size_toArray, List.length_append, List.length_take, List.length_drop, Array.length_toList]
        rw [Array.length_toList] at hfit
        omega
      · rw [htake, List.append_assoc, ← hown.1]
        exact List.take_left
    · have holds : ∀ j u, xs[j]? = some u → w.drew.cell? ((⟨g, 0, none⟩ : Addr).add j) = some u := hown.cells (g := g) rfl
      have hold := run_firstCells_some (P := P) w.drew i.size n ⟨g, 0, none⟩ n cap xs hown.1 holds
      have hr := Lib.run_append_grow_zeros (P := P) w t tn ty e i z kq kn ht htn hi hz (some ⟨g, 0, none⟩) n cap xs hold k h0 hsz (by omega) (by omega) hb1 (growslice_fits (by omega) hbytes)
      have hgr := grown cap (by omega) (Value.ownBlock (.slice (some ⟨g, 0, none⟩) n cap))
      exact ⟨_, _, hr, hgr.1, hgr.2, Or.inr rfl, ⟨hown.1, .inr ⟨g, cap, cur, rfl, hbg, (Below.heap_alloc w.drew _ g (Array.getElem?_eq_some_iff.1 hg).1).trans hg, hnc, hcm, hcs, htake⟩⟩⟩
end Go.Proofs.YtopggemomcoalaaGreat
namespace Go.Proofs.YtopggemomcoalaaGreat
open Go.ChangeShapes Go.WideShapes Go.ChangeAt Go.RowKit
set_option linter.unusedVariables false
set_option linter.unusedSimpArgs false

/-! ### slices.Grow of nothing, slices.Concat, of instructions -/
def zIns : Value := .agg #[.int .i64 0, .int .i64 0, .int .i64 0]
theorem zIns_one (n : Nat) : ∀ u ∈ (Builtin.zeroCells zIns.cells n).toList, u.oneCell' = true := fun u hu => by
  unfold Builtin.zeroCells at hu
  rw [Array.toList_map, Array.toList_range] at hu
  obtain ⟨x, _, rfl⟩ := List.mem_map.1 hu
  have h3 : zIns.cells.size = 3 := rfl
  rw [h3]
  rcases (by omega : x % 3 = 0 ∨ x % 3 = 1 ∨ x % 3 = 2) with h | h | h <;> rw [h] <;> rfl
structure LsI where
  b : Nat
  o : Nat
  c : Nat
  n : Nat
  F : Nat → Value
def LiI (W : World) (Y : LsI) : Prop := 0 < Y.n ∧ Y.b < W.heap.size ∧ ∀ j, j < Y.n * 3 → W.cell? ⟨Y.b, Y.o + j, none⟩ = some (Y.F j) ∧ (Y.F j).oneCell' = true
theorem LiI.below {W W' : World} {Y : LsI} (h : LiI W Y) (hb : Below W.heap.size W W') : LiI W' Y := ⟨h.1, Nat.lt_of_lt_of_le h.2.1 hb.size, fun j hj => ⟨(hb.cell (p := ⟨Y.b, Y.o + j, none⟩) h.2.1).trans (h.2.2 j hj).1, (h.2.2 j hj).2⟩⟩
def offI (Y : Nat → LsI) : Nat → Nat
  | 0 => 0
  | k + 1 => offI Y k + (Y k).n
def catI (Y : Nat → LsI) : Nat → Nat → Value
  | 0 => fun _ => .int .i64 0
  | k + 1 => fun j => if j < offI Y k * 3 then catI Y k j else (Y k).F (j - offI Y k * 3)
theorem offI_mono (Y : Nat → LsI) {j k : Nat} (h : j ≤ k) : offI Y j ≤ offI Y k := by
  induction h with
  | refl => exact Nat.le_refl _
  | step h ih => exact Nat.le_trans ih (Nat.le_add_right _ _)
theorem catI_app (Y : Nat → LsI) (k : Nat) : cellsF (catI Y k) (offI Y k * 3) ++ cellsF (Y k).F ((Y k).n * 3) = cellsF (catI Y (k + 1)) (offI Y (k + 1) * 3) := by
  rw [cellsF_append, show offI Y (k + 1) * 3 = offI Y k * 3 + (Y k).n * 3 from Nat.add_mul _ _ _]
  rfl
theorem cutI {W : World} {base g m c : Nat} {F G : Nat → Value} {t : TypeId} {s : Nat} (h : Own W base t s (.slice (some ⟨g, 0, none⟩) m c) m F) : Own W base t s (.slice (some ⟨g, 0, none⟩) 0 c) 0 G := by
  obtain ⟨cur, h1, h2, h3, h4, h5, h6⟩ := Own.block h
  exact Own.mk' h1 h2 (Nat.zero_le _) h4 h5 fun j hj => by omega
theorem owned_some {W : World} {base m z g : Nat} {t : TypeId} {s : Nat} {v : Value} {F : Nat → Value} {a c : Nat} (h : Own W base t s v m F) (hn : v.ownBlock = (Value.slice (some ⟨g, 0, none⟩) a c).ownBlock ∨ v.ownBlock = some z) : ∃ g5 c5, v = .slice (some ⟨g5, 0, none⟩) m c5 := by
  rcases h.form with ⟨rfl, _⟩ | ⟨g', c', rfl, _⟩
  · rcases hn with e | e <;> cases e
  · exact ⟨_, _, rfl⟩
set_option maxRecDepth 100000 in
set_option maxHeartbeats 4000000 in
theorem growI_any (n : Nat) (hn : n ≤ 1000000) (h0 : 0 < n) (G : Nat → Value) (w : World) : Calls Tryz.prog 122 #[.slice none 0 0, .int .i64 (n : Int)] w fun e w' => ∃ g c, e = .returned (.slice (some ⟨g, 0, none⟩) 0 c) ∧ Own w' w.heap.size 36 3 (.slice (some ⟨g, 0, none⟩) 0 c) 0 G ∧ Below w.heap.size w w' := by
  have d0 : decide ((n : Int) < 0) = false := by simp
  obtain ⟨iE, hE1, hE2, hE3, hE4⟩ := info_parts infoIns
  have d1 : decide ((0 : Int) < (n : Int)) = true := by simp; omega
  have d2 : decide (0 < n) = true := by simp; omega
  have e1 : IntKind.i64.wrap ((n : Int) - 0) = (n : Int) := by rw [IntKind.wrap_i64]; omega
  have e2 : IntKind.i64.wrap (n : Int) = (n : Int) := by rw [IntKind.wrap_i64]; omega
  obtain ⟨v', w', hr, h2, h3, h4, h5⟩ := run_append_own_zeros (P := Tryz.prog) w w.heap.size 22 3 22 36 iE zIns .i64 .i64 3 24 Tryz.underlying22 Tryz.underlying3 hE1 hE2 hE3 hE4 rfl (by decide) (.slice none 0 0) 0 [] (World.ownsRow_nil _ _ _ _) n (by omega) (zIns_one n) (by unfold maxLen; omega) (by omega) (Nat.le_refl _)
  have hb' : Below w.heap.size w w' := (Below.refl _ w).grown h3 (Nat.le_refl _) (fun k hk => by cases hk)
  have ho := own_of h2
  rw [Nat.zero_add] at ho
  obtain ⟨g, c, rfl⟩ : ∃ g c, v' = .slice (some ⟨g, 0, none⟩) n c := by
    rcases ho.form with ⟨h1, h2⟩ | ⟨g, c', h1, _, _⟩
    · omega
    · exact ⟨g, c', h1⟩
  have hcut : Hid (Own w' w.heap.size 36 3 (.slice (some ⟨g, 0, none⟩) 0 c) 0 G ∧ Below w.heap.size w w') := ⟨cutI ho, hb'⟩
  have hcn : n ≤ c := by
    obtain ⟨_, _, _, h9, _⟩ := Own.block ho
    exact h9
  clear h2 h3 h4 h5 ho hb'
  go_enter Tryz.func122, Tryz.ntmps122
  go_wp2_with (at_builtin; refine Lib.wpList_append_run _ rfl _ _ 22 3 rfl _ _ rfl rfl _ _ hr ?_)
  go_ret
  exact ⟨_, _, rfl, hcut.out⟩
set_option maxRecDepth 100000 in
set_option maxHeartbeats 4000000 in
theorem concatI_any (qb m cp : Nat) (Y : Nat → LsI) (hm : m ≤ 1000) (h0 : 0 < m) (hn : offI Y m ≤ 100000) (w : World) (hq : qb < w.heap.size) (h : ∀ k, k < m → w.cell? ⟨qb, k, none⟩ = some (.slice (some ⟨(Y k).b, (Y k).o, none⟩) (Y k).n (Y k).c) ∧ LiI w (Y k)) : Calls Tryz.prog 117 #[.slice (some ⟨qb, 0, none⟩) m cp] w fun e w' => ∃ g c, e = .returned (.slice (some ⟨g, 0, none⟩) (offI Y m) c) ∧ Own w' w.heap.size 36 3 (.slice (some ⟨g, 0, none⟩) (offI Y m) c) (offI Y m) (catI Y m) ∧ Below w.heap.size w w' := by
  have HH := tmh h
  have hpos : 0 < offI Y m := Nat.lt_of_lt_of_le (show 0 < offI Y 1 by have := (h 0 h0).2.1; show 0 < offI Y 0 + (Y 0).n; omega) (offI_mono Y h0)
  obtain ⟨iE, hE1, hE2, hE3, hE4⟩ := info_parts infoIns
  clear h
  go_enter Tryz.func117, Tryz.ntmps117
  go_wp2_with fail
  go_loopw [3, 11] (fun v x wr => ∃ k : Nat, x = .int .i64 (k : Int) ∧ k ≤ m ∧ v = .int .i64 (offI Y k : Nat) ∧ wr = w) (fun _ x _ => m - (intOf x).toNat)
  case atStart => exact ⟨0, rfl, Nat.zero_le _, rfl, rfl⟩
  case round =>
    obtain ⟨k, rfl, hk, rfl, hw⟩ := hrel
    subst wr
    by_cases hlt : k < m
    · have dlt : decide ((k : Int) < (m : Int)) = true := by simp; omega
      have i0 : (0 : Int) ≤ (k : Int) := by omega
      have i1 : (k : Int) < (m : Int) := by omega
      have ei : IntKind.i64.wrap ((k : Int) + 1) = (k : Int) + 1 := by rw [IntKind.wrap_i64]; omega
      have hme := meas0 hlt
      have c0 := (HH.out k hlt).1
      have hof : offI Y (k + 1) ≤ offI Y m := offI_mono Y hlt
      have hofk : offI Y (k + 1) = offI Y k + (Y k).n := rfl
      obtain ⟨a, ha⟩ : ∃ a, offI Y k = a := ⟨_, rfl⟩
      obtain ⟨z, hz⟩ : ∃ z, offI Y (k + 1) = z := ⟨_, rfl⟩
      rw [ha, hz] at hofk
      rw [hz] at hof
      have es : IntKind.i64.wrap ((a : Int) + ((Y k).n : Int)) = (z : Int) := by rw [IntKind.wrap_i64]; omega
      have ds : decide ((z : Int) < 0) = false := by simp
      have HZ := tmh hz
      rw [ha]
      clear hof hofk ha hz hpos hE1 hE2 hE3 hE4
      go_wp2_with fail
      exact ⟨⟨k + 1, rfl, hlt, by rw [HZ.out], trivial⟩, hme⟩
    · have dlt : decide ((k : Int) < (m : Int)) = false := by simp; omega
      obtain rfl : k = m := by omega
      have HG := growI_any (offI Y k) (by omega) hpos (catI Y 0) w
      go_wp2_with (go_at_call 122; (with_reducible refine HG.mono ?_); rintro e9 w3 ⟨gg, gc, rfl, h5, h6⟩)
      have HG3 := tmh (And.intro h5 h6)
      clear h5 h6
      go_loopw [6, 27] (fun v x wr => ∃ j g c : Nat, v = .slice (some ⟨g, 0, none⟩) (offI Y j) c ∧ x = .int .i64 (j : Int) ∧ j ≤ k ∧ Own wr w.heap.size 36 3 (.slice (some ⟨g, 0, none⟩) (offI Y j) c) (offI Y j) (catI Y j) ∧ Below w.heap.size w wr) (fun _ x _ => k - (intOf x).toNat)
      case atStart => exact ⟨0, gg, gc, rfl, rfl, Nat.zero_le _, HG3.out.1, HG3.out.2⟩
      case round =>
        obtain ⟨j, g, c, rfl, rfl, hj, ho, hb⟩ := hrel
        by_cases hlt : j < k
        · have dlt : decide ((j : Int) < (k : Int)) = true := by simp; omega
          have i0 : (0 : Int) ≤ (j : Int) := by omega
          have i1 : (j : Int) < (k : Int) := by omega
          have ei : IntKind.i64.wrap ((j : Int) + 1) = (j : Int) + 1 := by rw [IntKind.wrap_i64]; omega
          have hme := meas0 hlt
          have hl := (HH.out j hlt).2.below hb
          have c0 : wr.cell? ⟨qb, j, none⟩ = some (.slice (some ⟨(Y j).b, (Y j).o, none⟩) (Y j).n (Y j).c) := (hb.cell (p := ⟨qb, j, none⟩) hq).trans (HH.out j hlt).1
          have hof : offI Y (j + 1) ≤ offI Y k := offI_mono Y hlt
          have hofk : offI Y (j + 1) = offI Y j + (Y j).n := rfl
          have p1 : offI Y j + (Y j).n ≤ maxLen := by unfold maxLen; omega
          have p2 : (offI Y j + (Y j).n) * 24 ≤ 140737488355328 := by omega
          have hnw : ∀ i u, (cellsF (Y j).F ((Y j).n * 3))[i]? = some u → wr.cell? ((⟨(Y j).b, (Y j).o, none⟩ : Addr).add i) = some u := fun i u hu => by
            have hi : i < (Y j).n * 3 := by have := (List.getElem?_eq_some_iff.1 hu).1; simpa [cellsF] using this
            rw [addr_add0]
            rw [cellsF_at _ hi] at hu
            injection hu with hu
            rw [← hu]
            exact (hl.2.2 i hi).1
          have hon : ∀ u ∈ cellsF (Y j).F ((Y j).n * 3), u.oneCell' = true := fun u hu => by
            unfold cellsF at hu
            obtain ⟨i, hi, rfl⟩ := List.mem_map.1 hu
            exact (hl.2.2 i (by simpa using hi)).2
          have hol : wr.ownsRow w.heap.size 36 3 (.slice (some ⟨g, 0, none⟩) (offI Y j) c) (offI Y j) (cellsF (catI Y j) (offI Y j * 3)) := ho
          have hbl := (ho.lt g rfl).1
          have HL := tmh (And.intro hol (And.intro hb (And.intro hnw (And.intro hon (And.intro hbl hofk)))))
          clear hl hof hofk hnw hon hol ho hb hj hbl
          go_wp2_with (at_builtin; refine wpList_append_own_at _ rfl _ _ 22 rfl w.heap.size 36 iE _ 3 24 Tryz.underlying22 hE1 hE2 hE3 hE4 rfl (by decide) _ _ _ rfl HL.out.1 ⟨(Y j).b, (Y j).o, none⟩ (Y j).n _ (cellsF (Y j).F ((Y j).n * 3)) rfl (by simp [cellsF]) HL.out.2.2.1 HL.out.2.2.2.1 p1 p2 HL.out.2.1.size ?_; intro v' w9 hown9 hgrow9 _ hnb9; have hgrow9 : wr.grownBy w9 (some g) := hgrow9; rw [catI_app] at hown9; have hown9 : Own w9 w.heap.size 36 3 v' (offI Y (j + 1)) (catI Y (j + 1)) := hown9; obtain ⟨g5, c5, rfl⟩ := owned_some hown9 hnb9; have H9 := tmh (And.intro hown9 hgrow9); clear hown9 hgrow9 hnb9)
          exact ⟨⟨j + 1, g5, c5, rfl, rfl, hlt, H9.out.1, HL.out.2.1.grown H9.out.2 HL.out.2.1.size (fun r' e => by injection e with e; have := HL.out.2.2.2.2.1; omega)⟩, hme⟩
        · have dlt : decide ((j : Int) < (k : Int)) = false := by simp; omega
          obtain rfl : j = k := by omega
          have HF := tmh (And.intro ho hb)
          clear ho hb
          go_wp2_with fail
          go_ret
          exact ⟨_, _, rfl, HF.out⟩
end Go.Proofs.YtopggemomcoalaaGreat
