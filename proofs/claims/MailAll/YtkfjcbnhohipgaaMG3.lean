import Derived.Test.YtkfjcbnhohipgaaME3
import Derived.BigQuiet
import Derived.Deep.RegionLaw
import Derived.Deep.RegionHeld3
import Derived.Deep.Cut
import Derived.Deep.DeepCutAuto
import Derived.Deep.CutBlock
import Derived.Deep.CutRange
import Derived.Deep.AppendLies
import Derived.Handy
import Derived.Lib.RabinKarpLaws
namespace Go.Proofs.Ytkfjcbnhohipgaa
open Go.ChangeShapes Go.WideShapes Go.ChangeAt Go.RowKit
set_option linter.unusedVariables false
set_option linter.unusedSimpArgs false


theorem run_append_hold {P : Program} (w : World) (base : Nat) (t ty e : TypeId) (i : TypeInfo) (z : Value) (size bytes : Nat) (ht : P.underlying t = some (.slice e)) (hi : P.info? e = some i) (hz : i.zero = some z)
    (hsize : i.size = size) (hby : i.bytes = bytes) (hzs : z.cells.size = size) (hsz : 0 < size)
    (v : Value) (n : Nat) (xs : List Value) (hown : w.ownsRow base e size v n xs)
    (a : Addr) (m c : Nat) (hm : 0 < m) (news : List Value) (hl : news.length = m * size) (hnews : ∀ j u, news[j]? = some u → w.cell? (a.add j) = some u) (h1 : ∀ u ∈ news, u.oneCell' = true)
    (h63 : n + m ≤ maxLen) (hbytes : (n + m) * bytes ≤ 140737488355328) (hbase : base ≤ w.heap.size) :
    ∃ v' w', (Builtin.append_ #[t, t] ty #[v, .slice (some a) m c]).run P w = .ok v' w' ∧ w'.ownsRow base e size v' (n + m) (xs ++ news) ∧ w.grownBy w' v.ownBlock ∧
      (v'.ownBlock = v.ownBlock ∨ v'.ownBlock = some w.heap.size) ∧ w'.ownsRow base e size v n xs := by
  subst hsize
  subst hby
  have hsmall : n + m ≤ 9223372036854775807 := by simp only [maxLen] at h63; omega
  have hlen : (xs ++ news).length = (n + m) * i.size := by rw [List.length_append, hown.1, hl, Nat.add_mul]
  have grown : ∀ (old : Nat), old < n + m → ∀ (row : Option Nat),
      (w.drew.alloc (.cells (xs.toArray ++ news.toArray ++ Builtin.zeroCells z.cells (grownCap w (n + m) old e - (n + m))) e)).ownsRow base e i.size
        (.slice (some ⟨w.heap.size, 0, none⟩) (n + m) (grownCap w (n + m) old e)) (n + m) (xs ++ news) ∧
      w.grownBy (w.drew.alloc (.cells (xs.toArray ++ news.toArray ++ Builtin.zeroCells z.cells (grownCap w (n + m) old e - (n + m))) e)) row := by
    intro old ho row
    have hge := grownCap_ge w (n + m) old e
    have hcm : grownCap w (n + m) old e ≤ maxLen := grownCap_le_maxLen w (n + m) old e h63
    refine ⟨⟨hlen, .inr ⟨w.heap.size, _, _, rfl, hbase, heap_alloc_new w.drew _, hge, hcm, ?_, ?_⟩⟩, ⟨rfl, rfl, rfl, by simp, fun k hk _ => Below.heap_alloc w.drew _ k hk⟩⟩
    · simp only [Array.size_append, List.size_toArray, size_zeroCells, hzs, hown.1, hl, ← Nat.add_mul]
      congr 1
      omega
    · simp only [Array.toList_append, List.append_assoc]
      rw [← List.append_assoc, ← hlen]
      exact List.take_left
  rcases hown.2 with ⟨rfl, rfl⟩ | ⟨g, cap, cur, rfl, hbg, hg, hnc, hcm, hcs, htake⟩
  · have hx : xs = [] := List.eq_nil_of_length_eq_zero (by simpa using hown.1)
    subst hx
    have hr := run_append_nil (P := P) w t ty e i z ht hi hz a m c news hl hnews (by omega) (by omega) (by have hb := hbytes; simp only [Nat.zero_add] at hb; omega)
    have hgr := grown 0 (by omega) (Value.ownBlock (.slice none 0 0))
    simp only [Nat.zero_add, List.nil_append, Array.empty_append] at hgr ⊢
    exact ⟨_, _, hr, hgr.1, hgr.2, Or.inr rfl, World.ownsRow_nil _ _ _ _⟩
  · by_cases hroom : n + m ≤ cap
    · have hfit : n * i.size + news.length ≤ cur.size := by rw [hl, hcs, ← Nat.add_mul]; exact Nat.mul_le_mul_right _ hroom
      have hr := run_append_room (P := P) w t ty e i ht hi g n cap cur hg a m c news hl hnews h1 hroom hfit
      refine ⟨_, _, hr, ⟨hlen, .inr ⟨g, cap, _, rfl, hbg, setRow_heap w g cur _ e _ hg, hroom, hcm, ?_, ?_⟩⟩, ⟨rfl, rfl, rfl, by simp, fun k _ hk => setRow_other w g k _ (fun e => hk (by simp [Value.ownBlock, e]))⟩, Or.inl rfl, ⟨hown.1, .inr ⟨g, cap, _, rfl, hbg, setRow_heap w g cur _ e _ hg, hnc, hcm, ?_, ?_⟩⟩⟩
      · simp only [List.size_toArray, List.length_append, List.length_take, List.length_drop, Array.length_toList]
        omega
      · rw [htake, ← hlen]
        exact List.take_left
      · simp only [List.size_toArray, List.length_append, List.length_take, List.length_drop, Array.length_toList]
        omega
      · rw [htake, List.append_assoc, ← hown.1]
        exact List.take_left
    · have holds : ∀ j u, xs[j]? = some u → w.cell? ((⟨g, 0, none⟩ : Addr).add j) = some u := hown.cells (g := g) rfl
      have hr := run_append_grow (P := P) w t ty e i z ht hi hz ⟨g, 0, none⟩ n cap xs hown.1 holds a m c news hl hnews (by omega) (by omega) (growslice_fits (by omega) hbytes)
      have hgr := grown cap (by omega) (Value.ownBlock (.slice (some ⟨g, 0, none⟩) n cap))
      exact ⟨_, _, hr, hgr.1, hgr.2, Or.inr rfl, ⟨hown.1, .inr ⟨g, cap, cur, rfl, hbg, (Below.heap_alloc w.drew _ g (Array.getElem?_eq_some_iff.1 hg).1).trans hg, hnc, hcm, hcs, htake⟩⟩⟩

/-- a row, cut short -/
theorem Own.pre {W : World} {base : Nat} {t : TypeId} {s g n m c : Nat} {F : Nat → Value} (h : Own W base t s (.slice (some ⟨g, 0, none⟩) n c) n F) (hm : m ≤ n) : Own W base t s (.slice (some ⟨g, 0, none⟩) m c) m F := by
  obtain ⟨cur, h1, h2, h3, h4, h5, h6⟩ := h.block
  exact Own.mk' h1 h2 (by omega) h4 h5 fun j hj => h6 j (Nat.lt_of_lt_of_le hj (Nat.mul_le_mul_right _ hm))
theorem Own.nil (W : World) (base : Nat) (t : TypeId) (s : Nat) (F : Nat → Value) : Own W base t s (.slice none 0 0) 0 F := ⟨by simp [cellsF], .inl ⟨rfl, rfl⟩⟩
/-- append of one thing: the old row holds what it held -/
theorem app_tgh {ops : Array Oper} {rest : List Oper} {o : Oper} {a : Act} {w : World} {Q : Exit → Act → World → Prop} (hgd : o.guard = none) (sl x : Operand) (ho : o.op = .call { callee := .builtin .append, args := #[sl, x], argTypes := #[37, 37] }) (B : Nat) (v : Value) (m : Nat) (k : Nat → Int × Int) (y z : Int) (hs : a.eval sl = v) (hb : Own w B 31 2 v m (thF k))
    (hx : a.eval x = .slice (some ⟨w.heap.size, 0, none⟩) 1 1) (hlim : m ≤ 1000000) (hbase : B ≤ w.heap.size)
    (h : ∀ v' w', Own w' B 31 2 v' (m + 1) (thF fun i => if i = m then (y, z) else k i) → w.grownBy w' v.ownBlock → (∀ g, v'.ownBlock = some g → v.ownBlock = some g ∨ w.heap.size ≤ g) → Own w' B 31 2 v m (thF k) → wpList Try.prog ops Q rest (a.put o.dst v') w') : wpList Try.prog ops Q (o :: rest) a (w.alloc (.cells #[.int .i64 y, .int .i64 z] 31)) := by
  obtain ⟨iT, hT1, hT2, hT3, hT4⟩ := binfo infoTH
  obtain ⟨v', w', hr, h2, h3, h5, h6⟩ := run_append_hold (P := Try.prog) (w.alloc (.cells #[.int .i64 y, .int .i64 z] 31)) B 37 o.type 31 iT _ 2 16 Try.underlying37 hT1 hT2 hT3 hT4 rfl (by decide) v m _ (World.ownsRow.alloc hb _) ⟨w.heap.size, 0, none⟩ 1 1 (by decide) [.int .i64 y, .int .i64 z] rfl (cells_new9 w [.int .i64 y, .int .i64 z] 31) (by simp [Value.oneCell']) (by unfold maxLen; omega) (by omega) (by rw [World.size_alloc]; omega)
  refine wpList_plain hgd fun K hK => ?_
  unfold Oper.wp
  simp [execOp, ho, resolve, invoke, builtin, hs, hx, hr, Result.andThen]
  refine hK _ _ (h _ _ ((own_of_row h2).congr (thF_app k m y z _ rfl)) (grown_alloc h3) (fun g hg => ?_) h6)
  rcases h5 with h5 | h5
  · rw [h5] at hg; exact .inl hg
  · rw [h5] at hg; injection hg with hg; rw [World.size_alloc] at hg; exact .inr (by omega)
def gk (k : Nat → Int × Int) (m : Nat) (z : Int) (i : Nat) : Int × Int := if i < m then k i else (z, -1 - ((i - m : Nat) : Int))
theorem thF_congr {k k' : Nat → Int × Int} {n : Nat} (h : ∀ i, i < n → k i = k' i) : ∀ j, j < n * 2 → thF k j = thF k' j := fun j hj => by
  unfold thF
  rw [h (j / 2) (by omega)]
set_option maxRecDepth 100000 in
set_option maxHeartbeats 4000000 in
/-- grown: 64 more, and what was there still lies there -/
theorem grownC (z : Int) (B : Nat) (v : Value) (m : Nat) (k : Nat → Int × Int) (W : World) (h : Own W B 31 2 v m (thF k)) (hm : m ≤ 100000) (hB : B ≤ W.heap.size) : Calls Try.prog 59 #[v, .int .i64 z] W fun e W' => ∃ v', e = .returned v' ∧ Own W' B 31 2 v' (m + 64) (thF (gk k m z)) ∧ W.grownBy W' v.ownBlock ∧ (∀ g, v'.ownBlock = some g → v.ownBlock = some g ∨ W.heap.size ≤ g) ∧ Own W' B 31 2 v m (thF k) := by
  have HH := mhid h
  clear h
  go_enter Try.func59, Try.ntmps59
  go_wp2_with fail
  go_loopw [0, 5] (fun a y wr => ∃ (j : Nat), y = .int .i64 (j : Int) ∧ j ≤ 64 ∧ Own wr B 31 2 a (m + j) (thF (gk k m z)) ∧ W.grownBy wr v.ownBlock ∧ (∀ g, a.ownBlock = some g → v.ownBlock = some g ∨ W.heap.size ≤ g) ∧ Own wr B 31 2 v m (thF k)) (fun _ y _ => 64 - (intOf y).toNat)
  case atStart => exact ⟨0, rfl, Nat.zero_le _, HH.out.congr (thF_congr fun i hi => by unfold gk; rw [if_pos hi]), ⟨rfl, rfl, rfl, Nat.le_refl _, fun _ _ _ => rfl⟩, fun g hg => .inl hg, HH.out⟩
  case round =>
    obtain ⟨j, rfl, hj, ho, hg, hat, hv⟩ := hrel
    have HR := mhid (And.intro ho (And.intro hg (And.intro hat hv)))
    by_cases hlt : j < 64
    · have dl : decide ((j : Int) < 64) = true := by simp; omega
      have dln : decide (j < 64) = true := by simp; omega
      have hme := meas hlt
      have ek : IntKind.i64.wrap ((j : Int) + 1) = (j : Int) + 1 := by rw [IntKind.wrap_i64]; omega
      have es : IntKind.i64.wrap (-1 - (j : Int)) = -1 - (j : Int) := by rw [IntKind.wrap_i64]; omega
      have HLT := mhid (And.intro hlt hm)
      have HBB := mhid hB
      clear ho hg hat hv hlt hj
      go_wp2_with (at_builtin; refine app_tgh rfl _ _ rfl B u0 (m + j) (gk k m z) z (-1 - (j : Int)) rfl HR.out.1 rfl (by have h8 := HLT.out; omega) (Nat.le_trans HBB.out HR.out.2.1.4) ?_; intro v9 w9 o9 g9b g9c g9d)
      refine ⟨⟨j + 1, rfl, HLT.out.1, ?_, ?_, ?_, ?_⟩, hme⟩
      · refine Own.congr o9 (thF_congr fun i hi => ?_)
        by_cases e : i = m + j
        · subst e
          rw [if_pos rfl]
          unfold gk
          rw [if_neg (by omega), show m + j - m = j by omega]
        · rw [if_neg e]
      · refine ⟨g9b.1.trans HR.out.2.1.1, g9b.2.trans HR.out.2.1.2, g9b.3.trans HR.out.2.1.3, Nat.le_trans HR.out.2.1.4 g9b.4, fun i hi hne => (g9b.5 i (Nat.lt_of_lt_of_le hi HR.out.2.1.4) (fun e => ?_)).trans (HR.out.2.1.5 i hi hne)⟩
        rcases HR.out.2.2.1 i e.symm with h8 | h8
        · exact hne h8.symm
        · omega
      · intro g hgg
        rcases g9c g hgg with h8 | h8
        · exact HR.out.2.2.1 _ h8
        · exact .inr (Nat.le_trans HR.out.2.1.4 h8)
      · have hv := HR.out.2.2.2
        rcases hv.form with ⟨rfl, rfl⟩ | ⟨g, c, rfl, _⟩
        · exact Own.nil _ _ _ _ _
        · by_cases e : u0.ownBlock = some g
          · obtain ⟨cu, a1, a2, _⟩ := hv.block
            rcases HR.out.1.form with ⟨rfl, _⟩ | ⟨g2, c2, rfl, _⟩
            · cases e
            · simp [Value.ownBlock] at e
              subst e
              obtain ⟨cu2, b1, b2, _⟩ := HR.out.1.block
              rw [a1] at b1
              injection b1 with b1
              injection b1 with b1
              subst b1
              obtain rfl : c = c2 := by omega
              exact (g9d.pre (m := m) (by omega)).congr (thF_congr fun i hi => by unfold gk; rw [if_pos hi])
          · exact hv.keptBy g9b fun k hk e2 => e (e2.trans hk.symm)
    · have dl : decide ((j : Int) < 64) = false := by simp; omega
      have dln : decide (j < 64) = false := by simp; omega
      obtain rfl : j = 64 := by omega
      clear ho hg hat hv hlt hj
      go_wp2_with fail
      go_ret
      exact ⟨_, rfl, HR.out.1, HR.out.2.1, HR.out.2.2.1, HR.out.2.2.2⟩
end Go.Proofs.Ytkfjcbnhohipgaa
