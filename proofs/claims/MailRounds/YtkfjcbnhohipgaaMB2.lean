import Derived.Test.YtkfjcbnhohipgaaMB1
import Derived.BigQuiet
import Derived.Deep.RegionLaw
import Derived.Deep.RegionHeld3
import Derived.Deep.Cut
import Derived.Deep.DeepCutAuto
import Derived.Deep.CutBlock
import Derived.Deep.CutRange
import Derived.Deep.AppendLies
import Derived.Handy
import Derived.Lib.RabinKarpLaws
namespace Go.Proofs.Ytkfjcbnhohipgaa
open Go.ChangeShapes Go.WideShapes Go.ChangeAt Go.RowKit
set_option linter.unusedVariables false
set_option linter.unusedSimpArgs false


theorem infoPt : (Try.prog.info? 75).map (fun i => (i.zero, i.size, i.bytes)) = some (some (.pointer none), 1, 8) := by kernel_rfl
def PR (B : Nat) (w : World) (v : Value) (l : List Value) : Prop := w.ownsRow B 75 1 v l.length l
theorem pr_nil (B : Nat) (w : World) : PR B w (.slice none 0 0) [] := World.ownsRow_nil _ _ _ _
theorem PR.alloc {B : Nat} {w : World} {v : Value} {l : List Value} (h : PR B w v l) (o : Obj) : PR B (w.alloc o) v l := World.ownsRow.alloc h o
theorem PR.below {B : Nat} {w w' : World} {v : Value} {l : List Value} (h : PR B w v l) (hb : Below w.heap.size w w') : PR B w' v l := by
  rcases h.2 with ⟨h1, h2⟩ | ⟨g, cap, cur, hv, hbg, hg, h3, h4, h5, h6⟩
  · exact ⟨h.1, .inl ⟨h1, h2⟩⟩
  · exact ⟨h.1, .inr ⟨g, cap, cur, hv, hbg, (hb.block _ (lt_of_block hg)).trans hg, h3, h4, h5, h6⟩⟩
theorem app_ptr {ops : Array Oper} {rest : List Oper} {o : Oper} {a : Act} {w : World} {Q : Exit → Act → World → Prop} (hgd : o.guard = none) (sl x : Operand)
    (ho : o.op = .call { callee := .builtin .append, args := #[sl, x], argTypes := #[83, 83] }) (B : Nat) (v : Value) (l : List Value) (hs : a.eval sl = v) (hb : PR B w v l)
    (ad : Addr) (hx : a.eval x = .slice (some ⟨w.heap.size, 0, none⟩) 1 1) (hlim : l.length ≤ 1000) (hbase : B ≤ w.heap.size)
    (h : ∀ v' w', PR B w' v' (l ++ [.pointer (some ad)]) → Below B w w' → wpList Try.prog ops Q rest (a.put o.dst v') w') : wpList Try.prog ops Q (o :: rest) a (w.alloc (.cells #[.pointer (some ad)] 75)) := by
  obtain ⟨i5, hi5, ha5, hb5, hc5⟩ := info_parts infoPt
  refine wpList_append_lies _ hgd sl x 83 ho B 75 i5 (.pointer none) 1 8 Try.underlying83 hi5 ha5 hb5 hc5 rfl (by decide) v _ _ hs (hb.alloc _) ⟨w.heap.size, 0, none⟩ 1 1 [.pointer (some ad)] hx rfl (cells_new9 w [.pointer (some ad)] 75) (by intro u hu; simp at hu; subst hu; rfl) (by decide) (by unfold maxLen; omega) (by omega) (by simp; omega) (w.heap.size + 1) (by simp) ?_
  intro g cap w' h1 h2 _ _
  refine h _ w' ?_ (((Below.refl _ _).alloc hbase _).trans ((Below.refl _ _).grown h2 (by simp; omega) (fun k hk => (World.ownsRow.lt hb k hk).1)))
  unfold PR
  rw [List.length_append]
  exact h1
/-- the post's rows of boxes, as they lie -/
structure BS (W : World) (hb wb bb n : Nat) (room : Int) (cmp : Value) (R : Nat → Nat) : Prop where
  p : PAt9 W hb wb bb n room cmp
  b : ∀ i, i < n → W.cell? ⟨bb, i, none⟩ = some (.slice (some ⟨R i, 0, none⟩) n n)
  hl : hb < W.heap.size
  bl : bb < W.heap.size
theorem BS.below {W W' : World} {hb wb bb n : Nat} {room : Int} {cmp : Value} {R : Nat → Nat} (h : BS W hb wb bb n room cmp R) (hW : Below W.heap.size W W') : BS W' hb wb bb n room cmp R := by
  refine ⟨(hW.block _ h.hl).trans h.p, fun i hi => ?_, Nat.lt_of_lt_of_le h.hl hW.size, Nat.lt_of_lt_of_le h.bl hW.size⟩
  rw [hW.cell (p := ⟨bb, i, none⟩) h.bl]
  exact h.b i hi
def ptrs (f : Nat → Addr) : Nat → List Value
  | 0 => []
  | k + 1 => ptrs f k ++ [.pointer (some (f k))]
theorem ptrs_len (f : Nat → Addr) : ∀ k, (ptrs f k).length = k
  | 0 => rfl
  | k + 1 => by simp [ptrs, ptrs_len f k]
def halfAt (b j : Nat) (p : Int) : Addr := ⟨b, j * 2 + par p, none⟩
set_option maxRecDepth 100000 in
set_option maxHeartbeats 4000000 in
theorem sent_any (hb wb bb n : Nat) (room : Int) (x : Nat) (hx : x < n) (hn : n ≤ 64) (cmp : Value) (R : Nat → Nat) (p : Int) (hp : -1 ≤ p ∧ p < 4611686018427387904) (W : World) (h : BS W hb wb bb n room cmp R) :
    Calls Try.prog 35 #[.pointer (some ⟨hb, 0, none⟩), .int .i64 (x : Int), .int .i64 p] W fun e W' => ∃ v, e = .returned v ∧ PR W.heap.size W' v (ptrs (fun j => halfAt (R x) j p) n) ∧ Below W.heap.size W W' := by
  have HZ : Hid (∀ W', Below W.heap.size W W' → BS W' hb wb bb n room cmp R) := fun W' hW => h.below hW
  obtain ⟨c0, c1, c2, c3⟩ := h.p.cells
  have y0 := h.b x hx
  have x0 : (0 : Int) ≤ (x : Int) := by omega
  have x1 : (x : Int) < (n : Int) := by omega
  have HH := fun (b o : Nat) => half_any b o p hp
  clear h hp
  go_enter Try.func35, Try.ntmps35
  go_wp2_with fail
  clear c0 c1 c2 c3 y0
  go_loopw [7, 17] (fun a y wr => ∃ j : Nat, y = .int .i64 (j : Int) ∧ j ≤ n ∧ PR W.heap.size wr a (ptrs (fun j => halfAt (R x) j p) j) ∧ Below W.heap.size W wr) (fun _ y _ => n - (intOf y).toNat)
  case atStart => exact ⟨0, rfl, Nat.zero_le _, pr_nil _ _, Below.refl _ _⟩
  case round =>
    obtain ⟨j, rfl, hj, hpr, hbr⟩ := hrel
    have HP := mhid hpr
    have HB := mhid hbr
    clear hpr hbr
    by_cases hlt : j < n
    · have dl : decide ((j : Int) < (n : Int)) = true := by simp; omega
      have hm := meas hlt
      have ek : IntKind.i64.wrap ((j : Int) + 1) = (j : Int) + 1 := by rw [IntKind.wrap_i64]; omega
      have k0 : (0 : Int) ≤ (j : Int) := by omega
      have k1 : (j : Int) < (n : Int) := by omega
      have hs := HZ.out wr HB.out
      obtain ⟨c0, c1, c2, c3⟩ := hs.p.cells
      have y0 := hs.b x hx
      have HLT := mhid hlt
      have HPL := mhid (ptrs_len (fun j => halfAt (R x) j p) j)
      have HJ := mhid hj
      have HN := mhid hn
      clear hs hlt hj
      go_wp2_with (first | (go_at_call 32; (with_reducible refine (HH _ _ _).mono ?_); rintro e9 w9 ⟨rfl, h9⟩; subst h9) | (at_builtin; refine app_ptr rfl _ _ rfl W.heap.size u7 _ rfl HP.out ⟨R x, j * 2 + par p, none⟩ rfl (by rw [HPL.out]; have := HJ.out; have := HN.out; omega) HB.out.size ?_; intro v9 w9 b9 f9))
      exact ⟨⟨j + 1, rfl, HLT.out, b9, HB.out.trans f9⟩, hm⟩
    · have dl : decide ((j : Int) < (n : Int)) = false := by simp; omega
      obtain rfl : j = n := by omega
      go_wp2_with fail
      go_ret
      exact ⟨_, rfl, HP.out, HB.out⟩
/-- the halves that are due to x, of the first k senders -/
def dueL (R : Nat → Nat) (ph : Nat → Int) (x : Nat) : Nat → List Value
  | 0 => []
  | k + 1 => if ph k = ph x then dueL R ph x k ++ [.pointer (some (halfAt (R k) x (ph x - 1)))] else dueL R ph x k
theorem dueL_len (R : Nat → Nat) (ph : Nat → Int) (x : Nat) : ∀ k, (dueL R ph x k).length ≤ k
  | 0 => Nat.le_refl _
  | k + 1 => by
    have := dueL_len R ph x k
    unfold dueL
    split
    · simp; omega
    · omega
set_option maxRecDepth 100000 in
set_option maxHeartbeats 4000000 in
theorem due_any (hb wb bb n : Nat) (room : Int) (x : Nat) (hx : x < n) (hn : n ≤ 64) (cmp : Value) (R : Nat → Nat) (ph fl : Nat → Int) (hp : 0 ≤ ph x ∧ ph x < 4611686018427387904) (W : World) (h : BS W hb wb bb n room cmp R) (hw : WK W wb n ph fl) (hwb : wb < W.heap.size) :
    Calls Try.prog 36 #[.pointer (some ⟨hb, 0, none⟩), .int .i64 (x : Int)] W fun e W' => ∃ v, e = .returned v ∧ PR W.heap.size W' v (dueL R ph x n) ∧ Below W.heap.size W W' := by
  have HZ : Hid (∀ W', Below W.heap.size W W' → BS W' hb wb bb n room cmp R ∧ WK W' wb n ph fl) := fun W' hW => by
    refine ⟨h.below hW, fun i hi => ?_⟩
    rw [hW.cell (p := ⟨wb, i * 2, none⟩) hwb, hW.cell (p := ⟨wb, i * 2 + 1, none⟩) hwb]
    exact hw i hi
  obtain ⟨c0, c1, c2, c3⟩ := h.p.cells
  obtain ⟨y0, y1⟩ := hw x hx
  have x0 : (0 : Int) ≤ (x : Int) := by omega
  have x1 : (x : Int) < (n : Int) := by omega
  have HH := fun (b o : Nat) => half_any b o (ph x - 1) (by omega)
  have HST : Hid (∀ k, dueL R ph x (k + 1) = if ph k = ph x then dueL R ph x k ++ [.pointer (some (halfAt (R k) x (ph x - 1)))] else dueL R ph x k) := fun k => rfl
  obtain ⟨px, hpx⟩ : ∃ px, ph x = px := ⟨_, rfl⟩
  have ew : IntKind.i64.wrap (px - 1) = px - 1 := by rw [IntKind.wrap_i64]; omega
  rw [hpx] at y0 HST
  simp only [hpx] at HH
  clear h hp hw hwb hpx
  go_enter Try.func36, Try.ntmps36
  go_wp2_with fail
  clear c0 c1 c2 c3 y0 y1
  go_loopw [6, 22] (fun a y wr => ∃ j : Nat, y = .int .i64 (j : Int) ∧ j ≤ n ∧ PR W.heap.size wr a (dueL R ph x j) ∧ Below W.heap.size W wr) (fun _ y _ => n - (intOf y).toNat)
  case atStart => exact ⟨0, rfl, Nat.zero_le _, pr_nil _ _, Below.refl _ _⟩
  case round =>
    obtain ⟨j, rfl, hj, hpr, hbr⟩ := hrel
    have HP := mhid hpr
    have HB := mhid hbr
    clear hpr hbr
    by_cases hlt : j < n
    · have dl : decide ((j : Int) < (n : Int)) = true := by simp; omega
      have hm := meas hlt
      have ek : IntKind.i64.wrap ((j : Int) + 1) = (j : Int) + 1 := by rw [IntKind.wrap_i64]; omega
      have k0 : (0 : Int) ≤ (j : Int) := by omega
      have k1 : (j : Int) < (n : Int) := by omega
      obtain ⟨hs, hw⟩ := HZ.out wr HB.out
      obtain ⟨c0, c1, c2, c3⟩ := hs.p.cells
      obtain ⟨y0, y1⟩ := hw j hlt
      have hst := HST.out j
      obtain ⟨f, hf⟩ : ∃ f, fl j = f := ⟨_, rfl⟩
      obtain ⟨pj, hpj⟩ : ∃ pj, ph j = pj := ⟨_, rfl⟩
      rw [hpj] at y0 hst
      rw [hf] at y1
      have HS1 := mhid hst
      have HLT := mhid hlt
      have HPL := mhid (dueL_len R ph x j)
      have HJ := mhid hj
      have HN := mhid hn
      clear hs hw hlt hj hpj hf hst
      go_upto_region 6 with fail
      clear y0 y1 c0 c1 c2 c3
      obtain ⟨wz, hwz⟩ : ∃ wz, wr.alloc (.cells #[.int .i64 pj, .int .i64 f] 81) = wz := ⟨_, rfl⟩
      rw [hwz]
      have hnew : wz.heap[wr.heap.size]? = some (.cells #[.int .i64 pj, .int .i64 f] 81 (0, 0)) := by rw [← hwz]; exact World.alloc_heap_new wr _
      have z0 : wz.cell? ⟨wr.heap.size, 0, none⟩ = some (.int .i64 pj) := by unfold World.cell?; rw [hnew]; rfl
      have z1 : wz.cell? ⟨wr.heap.size, 1, none⟩ = some (.int .i64 f) := by unfold World.cell?; rw [hnew]; rfl
      have HBZ : Hid (Below W.heap.size W wz ∧ PR W.heap.size wz u6 (dueL R ph x j)) := by rw [← hwz]; exact ⟨HB.out.alloc HB.out.size _, HP.out.alloc _⟩
      obtain ⟨hs, -⟩ := HZ.out wz HBZ.out.1
      obtain ⟨c0, c1, c2, c3⟩ := hs.p.cells
      have y0 := hs.b j HLT.out
      clear hwz hnew hs
      by_cases he : pj = px
      · have d1 : (pj == px) = true := by simp [he]
        have HE := mhid he
        clear he
        go_wp2_with (first | (go_at_call 32; (with_reducible refine (HH _ _ _).mono ?_); rintro e9 w9 ⟨rfl, h9⟩; subst h9) | (at_builtin; refine app_ptr rfl _ _ rfl W.heap.size u6 _ rfl HBZ.out.2 ⟨R j, x * 2 + par (px - 1), none⟩ rfl (by have := HPL.out; have := HJ.out; have := HN.out; omega) HBZ.out.1.size ?_; intro v9 w9 b9 f9))
        exact ⟨⟨j + 1, rfl, HLT.out, by rw [HS1.out, if_pos HE.out]; exact b9, HBZ.out.1.trans f9⟩, hm⟩
      · have d1 : (pj == px) = false := by simp [he]
        have HE := mhid he
        clear he
        go_wp2_with fail
        exact ⟨⟨j + 1, rfl, HLT.out, by rw [HS1.out, if_neg HE.out]; exact HBZ.out.2, HBZ.out.1⟩, hm⟩
    · have dl : decide ((j : Int) < (n : Int)) = false := by simp; omega
      obtain rfl : j = n := by omega
      go_wp2_with fail
      go_ret
      exact ⟨_, rfl, HP.out, HB.out⟩
end Go.Proofs.Ytkfjcbnhohipgaa
