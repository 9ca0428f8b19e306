import Derived.Test.YtoihddhjpbahlaaME9b
import Derived.Test.YtoihddhjpbahlaaSA8
import Derived.Test.YtoihddhjpbahlaaMCK
import Derived.BigQuiet
import Derived.Deep.RegionLaw
import Derived.Deep.RegionHeld3
import Derived.Deep.Cut
import Derived.Deep.DeepCutAuto
import Derived.Deep.CutBlock
import Derived.Deep.CutRange
import Derived.Deep.AppendLies
import Derived.Handy
import Derived.Lib.RabinKarpLaws
namespace Go.Proofs.Ytoihddhjpbahlaa
open Go.ChangeShapes Go.WideShapes Go.ChangeAt Go.RowKit
set_option linter.unusedVariables false
set_option linter.unusedSimpArgs false


set_option maxRecDepth 100000 in
theorem order_any (ak : Nat) (p q : Int × Int) (W : World) (h : SA.Ask ak W) : Calls Try.prog 51 #[.agg #[.int .i64 p.1, .int .i64 p.2], .agg #[.int .i64 q.1, .int .i64 q.2], .pointer (some ⟨ak, 0, none⟩)] W fun e w' => e = .returned (.int .i64 (kcK p q)) ∧ SA.Kp ak ak W w' := by
  obtain ⟨z, hz⟩ := h
  have HB := fun W' => byK_any p q W'
  obtain ⟨a, b⟩ := p
  obtain ⟨c, d⟩ := q
  obtain ⟨W2, hW2⟩ : ∃ W2, (W.alloc (.cells #[.int .i64 a, .int .i64 b] 31)).alloc (.cells #[.int .i64 c, .int .i64 d] 31) = W2 := ⟨_, rfl⟩
  have hb2 : Below W.heap.size W W2 := by rw [← hW2]; exact ((Below.refl _ W).alloc (Nat.le_refl _) _).alloc (by rw [World.size_alloc]; omega) _
  have hz2 : W2.heap[ak]? = some (.cells #[.int .i64 z] 3 (0, 0)) := (hb2.block _ (lt_of_block hz)).trans hz
  have c0 : W2.cell? ⟨ak, 0, none⟩ = some (.int .i64 z) := by unfold World.cell?; rw [hz2]; rfl
  have f0 : W2.frozen? ⟨ak, 0, none⟩ = false := frz hz2 _
  obtain ⟨A0, hA0⟩ : ∃ A0, W.heap.size = A0 := ⟨_, rfl⟩
  obtain ⟨A1, hA1⟩ : ∃ A1, A0 + 1 = A1 := ⟨_, rfl⟩
  have t1 : W2.heap[A1]? = some (.cells #[.int .i64 c, .int .i64 d] 31 (0, 0)) := by
    have := World.alloc_heap_new (W.alloc (.cells #[.int .i64 a, .int .i64 b] 31)) (.cells #[.int .i64 c, .int .i64 d] 31)
    rw [hW2, World.size_alloc, hA0, hA1] at this
    exact this
  have t0 : W2.heap[A0]? = some (.cells #[.int .i64 a, .int .i64 b] 31 (0, 0)) := by
    have h1 := World.alloc_heap_new W (.cells #[.int .i64 a, .int .i64 b] 31)
    have h2 := ((Below.refl _ (W.alloc (.cells #[.int .i64 a, .int .i64 b] 31))).alloc (Nat.le_refl _) (.cells #[.int .i64 c, .int .i64 d] 31)).block W.heap.size (by rw [World.size_alloc]; omega)
    rw [hW2] at h2
    rw [← hA0, h2]
    exact h1
  obtain ⟨zw, hzw⟩ : ∃ zw, IntKind.i64.wrap (z + 1) = zw := ⟨_, rfl⟩
  obtain ⟨W3, hW3⟩ : ∃ W3, W2.setCell ⟨ak, 0, none⟩ (.int .i64 zw) = W3 := ⟨_, rfl⟩
  have hak := lt_of_block hz
  have h3 : ∀ j, j ≠ ak → W3.heap[j]? = W2.heap[j]? := fun j hj => by rw [← hW3]; exact Below.heap_setCell _ _ _ _ hj
  have x0 : W3.cell? ⟨A0, 0, none⟩ = some (.int .i64 a) := by unfold World.cell?; rw [h3 A0 (by omega), t0]; rfl
  have x1 : W3.cell? ⟨A0, 1, none⟩ = some (.int .i64 b) := by unfold World.cell?; rw [h3 A0 (by omega), t0]; rfl
  have x2 : W3.cell? ⟨A1, 0, none⟩ = some (.int .i64 c) := by unfold World.cell?; rw [h3 A1 (by omega), t1]; rfl
  have x3 : W3.cell? ⟨A1, 1, none⟩ = some (.int .i64 d) := by unfold World.cell?; rw [h3 A1 (by omega), t1]; rfl
  have k3 : SA.Kp ak ak W W3 := by
    refine ⟨by rw [← hW3]; exact hb2.os, by rw [← hW3]; exact hb2.tape, by rw [← hW3]; exact hb2.output, by rw [← hW3]; simpa [World.setCell] using hb2.size, fun j hj h1 _ => (h3 j h1).trans (hb2.block j hj), fun _ => ⟨zw, ?_⟩⟩
    rw [← hW3]
    show (W2.heap.modify ak _)[ak]? = _
    rw [Array.getElem?_modify, if_pos rfl, hz2]
    rfl
  have HK := mhid k3
  have HB3 := HB W3
  have HW2 := mhid hW2
  have HW3 := mhid hW3
  clear hz hb2 hz2 t0 t1 hW2 hW3 h3 k3 HB hak
  go_enter Try.func51, Try.ntmps51
  go_upto_region 1 with fail
  rw [HW2.out]
  clear hA0 hA1
  go_upto_region 2 with fail
  rw [HW3.out]
  go_wp2_with (go_at_call 14; (with_reducible refine HB3.mono ?_); rintro e9 w9 ⟨rfl, b9⟩; have B9 := mhid b9; clear b9)
  go_ret
  exact ⟨rfl, HK.out.trans (SA.Kp.below B9.out)⟩
theorem sa_klt (p q : Int × Int) : SA.klt kcK p q = (true && decide (p.1 < q.1)) := by
  rw [Bool.true_and]
  exact decide_eq_decide.2 (kcK_lt p q)
theorem sa_ord : SOrd (SA.klt kcK) where
  irr x := by rw [sa_klt]; simp
  tr x y z h1 h2 := by
    rw [sa_klt, Bool.true_and, decide_eq_true_eq] at h1 h2 ⊢
    omega
  ntr x y z h1 h2 := by
    rw [sa_klt, Bool.true_and, decide_eq_false_iff_not] at h1 h2 ⊢
    omega
theorem order_sorts (ak : Nat) : Sorts (.func (.func 51) #[] #[.pointer (some ⟨ak, 0, none⟩)]) (SA.klt kcK) (fun k => k = ak) (SA.Ask ak) := fun W base g S c hS ho hj hg =>
  (SA.sortS_any (ak := ak) (rp := (id : Int × Int → Int × Int)) (kc := kcK) (capv := .pointer (some ⟨ak, 0, none⟩)) sa_ord (by omega) W (base := base) (g := g) (n := S) (cap := S) (c := c) ho ⟨hj, fun _ p q w' hk => order_any ak p q w' (hk.ask hj)⟩).mono fun r W' ⟨h1, d, h2, h3, h4, h5⟩ => ⟨h1, d, h2, h3, h4, ⟨h5.os, h5.tape, h5.output, h5.size, fun k hk hne ha => h5.block k hk hne ha⟩, h5.ask hj⟩
variable {cmp : Value} {srt : Bool} {B : Nat} {X : Nat → Prop}
/-- what a pair of posts stands on -/
def f2 (n : Nat) (a : AP) (k : Nat) : Prop := fP n a k ∨ fQ a k
/-- something was done with one pair and the shelf: the other pair -/
theorem O3.other {n n' : Nat} {room room' : Int} {cc : Nat} {W W' : World} {a a' b : AP} (hX : ∀ k, X k → k < B) (ha : O3 n room cmp srt B W a) (hb : O3 n' room' cmp srt B W b) (hs : b.sb = a.sb ∧ b.V = a.V ∧ b.m = a.m) (hd : ∀ k, f2 n a k → ¬ f2 n' b k) (ha' : O3 n room cmp srt B W' a') (st : St n X cc W W' a a') : O3 n' room' cmp srt B W' { b with V := a'.V, m := a'.m } ∧ (∀ k, f2 n a' k → ¬ f2 n' { b with V := a'.V, m := a'.m } k) := by
  have nX : ∀ k, B ≤ k → ¬ X k := fun k h1 h2 => by have := hX k h2; omega
  have fsEq : ∀ k, fS a k ↔ fS b k := fun k => by unfold fS; rw [hs.1, hs.2.1]
  have nFA : ∀ k, f2 n' b k → ¬ FA n a k := fun k hk e => by
    rcases e with e | e | e
    · exact hd k (.inl e) hk
    · exact hd k (.inr e) hk
    · rcases hk with hk | hk
      · exact hb.ps k hk ((fsEq k).1 e)
      · exact hb.qs k hk ((fsEq k).1 e)
  have lt2 : ∀ k, f2 n' b k → B ≤ k ∧ k < W.heap.size := fun k hk => by
    rcases hk with hk | hk
    · exact hb.mp.foot hk
    · exact hb.rx.foot hk
  have keep : ∀ k, f2 n' b k → W'.heap[k]? = W.heap[k]? := fun k hk => st.kk k (lt2 k hk).2 (nFA k hk) (nX k (lt2 k hk).1)
  have nFA' : ∀ k, f2 n' b k → ¬ FA n a' k := fun k hk e => by
    rcases st.gr k e with h1 | h1
    · exact nFA k hk h1
    · have := (lt2 k hk).2; omega
  have hsb : a'.sb = b.sb := st.i3.trans hs.1.symm
  have hsh := ha'.sh
  rw [hsb] at hsh
  have fs' : ∀ k, FS b.sb a'.V k → fS a' k := fun k hk => by unfold fS; rw [hsb]; exact hk
  exact ⟨⟨hb.mp.keep fun k hk => keep k (.inl hk), hb.rx.keep fun k hk => keep k (.inr hk), hsh, hb.pq, fun k h1 h2 => nFA' k (.inl h1) (.inr (.inr (fs' k h2))), fun k h1 h2 => nFA' k (.inr h1) (.inr (.inr (fs' k h2))), Nat.le_trans hb.bs st.sz⟩, fun k h1 h2 => nFA' k h2 (by rcases h1 with h1 | h1; exact .inl h1; exact .inr (.inl h1))⟩
theorem RA.up {n : Nat} {room : Int} {a : AP} {t : Nat} (h : RA n room a t) (V : Nat → Value) (m : Nat) : RA n room { a with V := V, m := m } (t + 1) := ⟨h.re.up, h.e1, h.e2⟩
end Go.Proofs.Ytoihddhjpbahlaa
