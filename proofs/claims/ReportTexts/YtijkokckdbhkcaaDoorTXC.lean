import Derived.Test.YtijkokckdbhkcaaDoorTXB
namespace Go.Proofs.YtijkokckdbhkcaaDoor
open Go.ChangeShapes Go.WideShapes Go.ChangeAt Go.RowKit

theorem bsz (l : List UInt8) : (⟨l.toArray⟩ : ByteArray).size = l.length := by simp [ByteArray.size]

theorem keepB {B Z : Nat} {w W w1 : World} {v0 v1 v2 v3 v4 v5 : Value}
    (h : W.cell? ⟨B, 0, none⟩ = some v0 ∧ W.cell? ⟨B, 1, none⟩ = some v1 ∧ W.cell? ⟨B, 2, none⟩ = some v2 ∧ W.cell? ⟨B, 3, none⟩ = some v3 ∧ W.cell? ⟨B, 4, none⟩ = some v4 ∧ W.cell? ⟨B, 5, none⟩ = some v5 ∧ B < W.heap.size ∧ Below B w W)
    (hb : Below Z W w1) (hZ : Z = W.heap.size) :
    w1.cell? ⟨B, 0, none⟩ = some v0 ∧ w1.cell? ⟨B, 1, none⟩ = some v1 ∧ w1.cell? ⟨B, 2, none⟩ = some v2 ∧ w1.cell? ⟨B, 3, none⟩ = some v3 ∧ w1.cell? ⟨B, 4, none⟩ = some v4 ∧ w1.cell? ⟨B, 5, none⟩ = some v5 ∧ B < w1.heap.size ∧ Below B w w1 := by
  obtain ⟨h0, h1, h2, h3, h4, h5, hz, hB⟩ := h
  have hs := hb.size
  refine ⟨?_, ?_, ?_, ?_, ?_, ?_, by omega, hB.trans (hb.mono (by omega))⟩
  · rw [hb.cell (by show B < _; omega)]; exact h0
  · rw [hb.cell (by show B < _; omega)]; exact h1
  · rw [hb.cell (by show B < _; omega)]; exact h2
  · rw [hb.cell (by show B < _; omega)]; exact h3
  · rw [hb.cell (by show B < _; omega)]; exact h4
  · rw [hb.cell (by show B < _; omega)]; exact h5
theorem startB (w : World) (v0 v1 v2 v3 v4 v5 : Value) (T : TypeId) (W : World) (h : W = w.alloc (.cells #[v0, v1, v2, v3, v4, v5] T)) :
    W.drew.cell? ⟨w.heap.size, 0, none⟩ = some v0 ∧ W.drew.cell? ⟨w.heap.size, 1, none⟩ = some v1 ∧ W.drew.cell? ⟨w.heap.size, 2, none⟩ = some v2 ∧ W.drew.cell? ⟨w.heap.size, 3, none⟩ = some v3 ∧ W.drew.cell? ⟨w.heap.size, 4, none⟩ = some v4 ∧ W.drew.cell? ⟨w.heap.size, 5, none⟩ = some v5 ∧ w.heap.size < W.drew.heap.size ∧ Below w.heap.size w W.drew := by
  subst h
  have h := heap_alloc_new w (.cells #[v0, v1, v2, v3, v4, v5] T)
  refine ⟨?_, ?_, ?_, ?_, ?_, ?_, by simp, ((Below.refl _ _).alloc (Nat.le_refl _) _).drew⟩ <;> (show World.cell? (w.alloc _) _ = _; unfold World.cell?; simp only [h]; rfl)
theorem drewB {B : Nat} {w W : World} {v0 v1 v2 v3 v4 v5 : Value} (h : W.cell? ⟨B, 0, none⟩ = some v0 ∧ W.cell? ⟨B, 1, none⟩ = some v1 ∧ W.cell? ⟨B, 2, none⟩ = some v2 ∧ W.cell? ⟨B, 3, none⟩ = some v3 ∧ W.cell? ⟨B, 4, none⟩ = some v4 ∧ W.cell? ⟨B, 5, none⟩ = some v5 ∧ B < W.heap.size ∧ Below B w W) : W.drew.cell? ⟨B, 0, none⟩ = some v0 ∧ W.drew.cell? ⟨B, 1, none⟩ = some v1 ∧ W.drew.cell? ⟨B, 2, none⟩ = some v2 ∧ W.drew.cell? ⟨B, 3, none⟩ = some v3 ∧ W.drew.cell? ⟨B, 4, none⟩ = some v4 ∧ W.drew.cell? ⟨B, 5, none⟩ = some v5 ∧ B < W.drew.heap.size ∧ Below B w W.drew :=
  ⟨h.1, h.2.1, h.2.2.1, h.2.2.2.1, h.2.2.2.2.1, h.2.2.2.2.2.1, h.2.2.2.2.2.2.1, h.2.2.2.2.2.2.2.drew⟩
theorem belowB {B : Nat} {w W : World} {v0 v1 v2 v3 v4 v5 : Value} (h : W.cell? ⟨B, 0, none⟩ = some v0 ∧ W.cell? ⟨B, 1, none⟩ = some v1 ∧ W.cell? ⟨B, 2, none⟩ = some v2 ∧ W.cell? ⟨B, 3, none⟩ = some v3 ∧ W.cell? ⟨B, 4, none⟩ = some v4 ∧ W.cell? ⟨B, 5, none⟩ = some v5 ∧ B < W.heap.size ∧ Below B w W) : Below B w W := h.2.2.2.2.2.2.2

set_option maxHeartbeats 2000000 in
theorem refText_any (t q : Nat) (s d k v : Int) (ht : t < 18446744073709551616) (hq : q < 18446744073709551616) (hs : -9223372036854775808 ≤ s ∧ s ≤ 9223372036854775807) (hd : -9223372036854775808 ≤ d ∧ d ≤ 9223372036854775807) (hk : -9223372036854775808 ≤ k ∧ k ≤ 9223372036854775807) (hv : -9223372036854775808 ≤ v ∧ v ≤ 9223372036854775807) (w : World) :
    Calls Tryd.prog 17 #[.agg #[.int .u64 t, .int .i64 s, .int .u64 q, .int .i64 d, .int .i64 k, .int .i64 v]] w fun e w' => e = .returned (.string ⟨(txt t q s d k v).toArray⟩) ∧ Below w.heap.size w w' := by
  have lt := dec_len t ht
  have lq := dec_len q hq
  have ls := itoa_len s hs.1 hs.2
  have ld := itoa_len d hd.1 hd.2
  have lk := itoa_len k hk.1 hk.2
  have lv := itoa_len v hv.1 hv.2
  have a0 : ∀ W, (Op.stringOp .add (⟨(Lib.decDigits t).toArray⟩ : ByteArray) (⟨#[46]⟩ : ByteArray)).run Tryd.prog W = .ok (.string ((⟨(Lib.decDigits t).toArray⟩ : ByteArray) ++ (⟨#[46]⟩ : ByteArray))) W := fun W => run_string_add_sum (P := Tryd.prog) (w := W) _ _ (by simp [bsz]; omega)
  have a1 : ∀ W, (Op.stringOp .add ((⟨(Lib.decDigits t).toArray⟩ : ByteArray) ++ (⟨#[46]⟩ : ByteArray)) (⟨(Lib.itoa s).toArray⟩ : ByteArray)).run Tryd.prog W = .ok (.string (((⟨(Lib.decDigits t).toArray⟩ : ByteArray) ++ (⟨#[46]⟩ : ByteArray)) ++ (⟨(Lib.itoa s).toArray⟩ : ByteArray))) W := fun W => run_string_add_sum (P := Tryd.prog) (w := W) _ _ (by simp [ByteArray.size_append, bsz]; omega)
  have a2 : ∀ W, (Op.stringOp .add (((⟨(Lib.decDigits t).toArray⟩ : ByteArray) ++ (⟨#[46]⟩ : ByteArray)) ++ (⟨(Lib.itoa s).toArray⟩ : ByteArray)) (⟨#[46]⟩ : ByteArray)).run Tryd.prog W = .ok (.string ((((⟨(Lib.decDigits t).toArray⟩ : ByteArray) ++ (⟨#[46]⟩ : ByteArray)) ++ (⟨(Lib.itoa s).toArray⟩ : ByteArray)) ++ (⟨#[46]⟩ : ByteArray))) W := fun W => run_string_add_sum (P := Tryd.prog) (w := W) _ _ (by simp [ByteArray.size_append, bsz]; omega)
  have a3 : ∀ W, (Op.stringOp .add ((((⟨(Lib.decDigits t).toArray⟩ : ByteArray) ++ (⟨#[46]⟩ : ByteArray)) ++ (⟨(Lib.itoa s).toArray⟩ : ByteArray)) ++ (⟨#[46]⟩ : ByteArray)) (⟨(Lib.decDigits q).toArray⟩ : ByteArray)).run Tryd.prog W = .ok (.string (((((⟨(Lib.decDigits t).toArray⟩ : ByteArray) ++ (⟨#[46]⟩ : ByteArray)) ++ (⟨(Lib.itoa s).toArray⟩ : ByteArray)) ++ (⟨#[46]⟩ : ByteArray)) ++ (⟨(Lib.decDigits q).toArray⟩ : ByteArray))) W := fun W => run_string_add_sum (P := Tryd.prog) (w := W) _ _ (by simp [ByteArray.size_append, bsz]; omega)
  have a4 : ∀ W, (Op.stringOp .add (((((⟨(Lib.decDigits t).toArray⟩ : ByteArray) ++ (⟨#[46]⟩ : ByteArray)) ++ (⟨(Lib.itoa s).toArray⟩ : ByteArray)) ++ (⟨#[46]⟩ : ByteArray)) ++ (⟨(Lib.decDigits q).toArray⟩ : ByteArray)) (⟨#[62]⟩ : ByteArray)).run Tryd.prog W = .ok (.string ((((((⟨(Lib.decDigits t).toArray⟩ : ByteArray) ++ (⟨#[46]⟩ : ByteArray)) ++ (⟨(Lib.itoa s).toArray⟩ : ByteArray)) ++ (⟨#[46]⟩ : ByteArray)) ++ (⟨(Lib.decDigits q).toArray⟩ : ByteArray)) ++ (⟨#[62]⟩ : ByteArray))) W := fun W => run_string_add_sum (P := Tryd.prog) (w := W) _ _ (by simp [ByteArray.size_append, bsz]; omega)
  have a5 : ∀ W, (Op.stringOp .add ((((((⟨(Lib.decDigits t).toArray⟩ : ByteArray) ++ (⟨#[46]⟩ : ByteArray)) ++ (⟨(Lib.itoa s).toArray⟩ : ByteArray)) ++ (⟨#[46]⟩ : ByteArray)) ++ (⟨(Lib.decDigits q).toArray⟩ : ByteArray)) ++ (⟨#[62]⟩ : ByteArray)) (⟨(Lib.itoa d).toArray⟩ : ByteArray)).run Tryd.prog W = .ok (.string (((((((⟨(Lib.decDigits t).toArray⟩ : ByteArray) ++ (⟨#[46]⟩ : ByteArray)) ++ (⟨(Lib.itoa s).toArray⟩ : ByteArray)) ++ (⟨#[46]⟩ : ByteArray)) ++ (⟨(Lib.decDigits q).toArray⟩ : ByteArray)) ++ (⟨#[62]⟩ : ByteArray)) ++ (⟨(Lib.itoa d).toArray⟩ : ByteArray))) W := fun W => run_string_add_sum (P := Tryd.prog) (w := W) _ _ (by simp [ByteArray.size_append, bsz]; omega)
  have a6 : ∀ W, (Op.stringOp .add (((((((⟨(Lib.decDigits t).toArray⟩ : ByteArray) ++ (⟨#[46]⟩ : ByteArray)) ++ (⟨(Lib.itoa s).toArray⟩ : ByteArray)) ++ (⟨#[46]⟩ : ByteArray)) ++ (⟨(Lib.decDigits q).toArray⟩ : ByteArray)) ++ (⟨#[62]⟩ : ByteArray)) ++ (⟨(Lib.itoa d).toArray⟩ : ByteArray)) (⟨#[58]⟩ : ByteArray)).run Tryd.prog W = .ok (.string ((((((((⟨(Lib.decDigits t).toArray⟩ : ByteArray) ++ (⟨#[46]⟩ : ByteArray)) ++ (⟨(Lib.itoa s).toArray⟩ : ByteArray)) ++ (⟨#[46]⟩ : ByteArray)) ++ (⟨(Lib.decDigits q).toArray⟩ : ByteArray)) ++ (⟨#[62]⟩ : ByteArray)) ++ (⟨(Lib.itoa d).toArray⟩ : ByteArray)) ++ (⟨#[58]⟩ : ByteArray))) W := fun W => run_string_add_sum (P := Tryd.prog) (w := W) _ _ (by simp [ByteArray.size_append, bsz]; omega)
  have a7 : ∀ W, (Op.stringOp .add ((((((((⟨(Lib.decDigits t).toArray⟩ : ByteArray) ++ (⟨#[46]⟩ : ByteArray)) ++ (⟨(Lib.itoa s).toArray⟩ : ByteArray)) ++ (⟨#[46]⟩ : ByteArray)) ++ (⟨(Lib.decDigits q).toArray⟩ : ByteArray)) ++ (⟨#[62]⟩ : ByteArray)) ++ (⟨(Lib.itoa d).toArray⟩ : ByteArray)) ++ (⟨#[58]⟩ : ByteArray)) (⟨(Lib.itoa k).toArray⟩ : ByteArray)).run Tryd.prog W = .ok (.string (((((((((⟨(Lib.decDigits t).toArray⟩ : ByteArray) ++ (⟨#[46]⟩ : ByteArray)) ++ (⟨(Lib.itoa s).toArray⟩ : ByteArray)) ++ (⟨#[46]⟩ : ByteArray)) ++ (⟨(Lib.decDigits q).toArray⟩ : ByteArray)) ++ (⟨#[62]⟩ : ByteArray)) ++ (⟨(Lib.itoa d).toArray⟩ : ByteArray)) ++ (⟨#[58]⟩ : ByteArray)) ++ (⟨(Lib.itoa k).toArray⟩ : ByteArray))) W := fun W => run_string_add_sum (P := Tryd.prog) (w := W) _ _ (by simp [ByteArray.size_append, bsz]; omega)
  have a8 : ∀ W, (Op.stringOp .add (((((((((⟨(Lib.decDigits t).toArray⟩ : ByteArray) ++ (⟨#[46]⟩ : ByteArray)) ++ (⟨(Lib.itoa s).toArray⟩ : ByteArray)) ++ (⟨#[46]⟩ : ByteArray)) ++ (⟨(Lib.decDigits q).toArray⟩ : ByteArray)) ++ (⟨#[62]⟩ : ByteArray)) ++ (⟨(Lib.itoa d).toArray⟩ : ByteArray)) ++ (⟨#[58]⟩ : ByteArray)) ++ (⟨(Lib.itoa k).toArray⟩ : ByteArray)) (⟨#[61]⟩ : ByteArray)).run Tryd.prog W = .ok (.string ((((((((((⟨(Lib.decDigits t).toArray⟩ : ByteArray) ++ (⟨#[46]⟩ : ByteArray)) ++ (⟨(Lib.itoa s).toArray⟩ : ByteArray)) ++ (⟨#[46]⟩ : ByteArray)) ++ (⟨(Lib.decDigits q).toArray⟩ : ByteArray)) ++ (⟨#[62]⟩ : ByteArray)) ++ (⟨(Lib.itoa d).toArray⟩ : ByteArray)) ++ (⟨#[58]⟩ : ByteArray)) ++ (⟨(Lib.itoa k).toArray⟩ : ByteArray)) ++ (⟨#[61]⟩ : ByteArray))) W := fun W => run_string_add_sum (P := Tryd.prog) (w := W) _ _ (by simp [ByteArray.size_append, bsz]; omega)
  have a9 : ∀ W, (Op.stringOp .add ((((((((((⟨(Lib.decDigits t).toArray⟩ : ByteArray) ++ (⟨#[46]⟩ : ByteArray)) ++ (⟨(Lib.itoa s).toArray⟩ : ByteArray)) ++ (⟨#[46]⟩ : ByteArray)) ++ (⟨(Lib.decDigits q).toArray⟩ : ByteArray)) ++ (⟨#[62]⟩ : ByteArray)) ++ (⟨(Lib.itoa d).toArray⟩ : ByteArray)) ++ (⟨#[58]⟩ : ByteArray)) ++ (⟨(Lib.itoa k).toArray⟩ : ByteArray)) ++ (⟨#[61]⟩ : ByteArray)) (⟨(Lib.itoa v).toArray⟩ : ByteArray)).run Tryd.prog W = .ok (.string (((((((((((⟨(Lib.decDigits t).toArray⟩ : ByteArray) ++ (⟨#[46]⟩ : ByteArray)) ++ (⟨(Lib.itoa s).toArray⟩ : ByteArray)) ++ (⟨#[46]⟩ : ByteArray)) ++ (⟨(Lib.decDigits q).toArray⟩ : ByteArray)) ++ (⟨#[62]⟩ : ByteArray)) ++ (⟨(Lib.itoa d).toArray⟩ : ByteArray)) ++ (⟨#[58]⟩ : ByteArray)) ++ (⟨(Lib.itoa k).toArray⟩ : ByteArray)) ++ (⟨#[61]⟩ : ByteArray)) ++ (⟨(Lib.itoa v).toArray⟩ : ByteArray))) W := fun W => run_string_add_sum (P := Tryd.prog) (w := W) _ _ (by simp [ByteArray.size_append, bsz]; omega)
  clear lt lq ls ld lk lv
  go_enter Tryd.func17, Tryd.ntmps17
  go_wp2_with fail
  go_region_held3 (fun w' => w'.cell? ⟨w.heap.size, 0, none⟩ = some (.int .u64 t) ∧ w'.cell? ⟨w.heap.size, 1, none⟩ = some (.int .i64 s) ∧ w'.cell? ⟨w.heap.size, 2, none⟩ = some (.int .u64 q) ∧ w'.cell? ⟨w.heap.size, 3, none⟩ = some (.int .i64 d) ∧ w'.cell? ⟨w.heap.size, 4, none⟩ = some (.int .i64 k) ∧ w'.cell? ⟨w.heap.size, 5, none⟩ = some (.int .i64 v) ∧ w.heap.size < w'.heap.size ∧ Below w.heap.size w w') (first | (exact startB _ _ _ _ _ _ _ _ _ rfl) | (refine keepB ?_ hb rfl; assumption)) (first | (go_at_call 26; refine (digits_any _ (by assumption) _).mono ?_; rintro e w' ⟨rfl, hb⟩) | (go_at_call 27; refine (refSigned_any s hs.1 hs.2 _).mono ?_; rintro e w' ⟨rfl, hb⟩))
  rename_i hS
  clear hb
  go_wp2_with fail
  go_region_held3 (fun w' => w'.cell? ⟨w.heap.size, 0, none⟩ = some (.int .u64 t) ∧ w'.cell? ⟨w.heap.size, 1, none⟩ = some (.int .i64 s) ∧ w'.cell? ⟨w.heap.size, 2, none⟩ = some (.int .u64 q) ∧ w'.cell? ⟨w.heap.size, 3, none⟩ = some (.int .i64 d) ∧ w'.cell? ⟨w.heap.size, 4, none⟩ = some (.int .i64 k) ∧ w'.cell? ⟨w.heap.size, 5, none⟩ = some (.int .i64 v) ∧ w.heap.size < w'.heap.size ∧ Below w.heap.size w w') (first | (exact drewB hS) | (refine keepB ?_ hb rfl; assumption)) (first | (go_at_call 27; refine (refSigned_any _ (by omega) (by omega) _).mono ?_; rintro e w' ⟨rfl, hb⟩))
  rename_i hS2
  have hB2 := belowB hS2
  clear hb
  go_wp2_with fail
  go_ret
  refine ⟨?_, hB2⟩
  have e0 : (((((((((((⟨(Lib.decDigits t).toArray⟩ : ByteArray) ++ (⟨#[46]⟩ : ByteArray)) ++ (⟨(Lib.itoa s).toArray⟩ : ByteArray)) ++ (⟨#[46]⟩ : ByteArray)) ++ (⟨(Lib.decDigits q).toArray⟩ : ByteArray)) ++ (⟨#[62]⟩ : ByteArray)) ++ (⟨(Lib.itoa d).toArray⟩ : ByteArray)) ++ (⟨#[58]⟩ : ByteArray)) ++ (⟨(Lib.itoa k).toArray⟩ : ByteArray)) ++ (⟨#[61]⟩ : ByteArray)) ++ (⟨(Lib.itoa v).toArray⟩ : ByteArray)) = ⟨(txt t q s d k v).toArray⟩ := by
    apply ByteArray.ext
    simp [txt, ByteArray.data_append]
  exact congrArg (fun x => Ending.returned (Value.string x)) e0
end Go.Proofs.YtijkokckdbhkcaaDoor
