import Derived.Test.YtijkokckdbhkcaaDoorTXC
import Derived.Test.YtijkokckdbhkcaaDoorTP2
import Derived.Lib.AppendStr
namespace Go.Proofs.YtijkokckdbhkcaaDoor
open Go.ChangeShapes Go.WideShapes Go.ChangeAt Go.RowKit Go.Sort
set_option linter.unusedVariables false
set_option linter.unusedSimpArgs false

def bst (l : List UInt8) : Value := .string ⟨l.toArray⟩
abbrev u8v : UInt8 → Value := fun (b : UInt8) => Value.int .u8 (b.toNat : Int)
theorem below_put {B g : Nat} (W : World) (d : Array UInt8) (k : Nat) (h : B ≤ g) : Below B W ((putRow u8v W g 0 d).drewN k) := by
  refine ⟨rfl, rfl, rfl, by simp [putRow, mapBlock, World.drewN], fun j hj => ?_⟩
  have : g ≠ j := by omega
  simp [putRow, mapBlock, World.drewN, Array.getElem?_modify, this]
theorem holds0 (w : World) (T : TypeId) (n : Nat) (hn : n ≤ 24) : Holds u8v (w.alloc (.cells Lib.zeros24 T)) w.heap.size 0 (Array.replicate n 0) := by
  intro j hj
  have hj' : j < n := by simpa using hj
  refine ⟨?_, World.frozen?_alloc_new _ _ _ _⟩
  rw [Nat.zero_add, World.cell?_alloc_new, Lib.zeros24_at j (by omega)]
  simp [u8v, hj']
set_option maxRecDepth 100000 in
set_option maxHeartbeats 2000000 in
theorem fmtUi_any (u : Nat) (hu : u < 18446744073709551616) (w : World) (htab : Lib.TabIs Tryd.prog w "internal/strconv.uint64pow10" .u64 Lib.pow10Tab) :
    Calls Tryd.prog 25 #[.int .u64 u, .int .i64 10] w fun e w' => e = .returned (bst (Lib.decDigits u)) ∧ Below w.heap.size w w' := by
  by_cases h : u < 100
  · have HS := Any.internal_strconv_small laysSm u h w
    change Calls Tryd.prog 31 _ _ _ at HS
    have d1 : decide ((u : Int) < 100) = true := by simp; omega
    have ec : IntKind.i64.wrap (u : Int) = u := by rw [IntKind.wrap_i64]; omega
    clear htab
    go_enter Tryd.func25, Tryd.ntmps25
    go_wp2_with (go_at_call 31; (with_reducible refine HS.mono ?_); rintro e w1 ⟨rfl, rfl⟩)
    go_ret
    exact ⟨rfl, Below.refl _ _⟩
  · have hnd := Lib.numDigits_eq u (by omega) hu
    have hnd20 : Lib.nDigits u ≤ 20 := by split at hnd <;> omega
    clear hnd
    have d1 : decide ((u : Int) < 100) = false := by simp; omega
    have HN := Any.internal_strconv_numDigits laysND u (by omega) hu (w.alloc (.cells Lib.zeros24 58)) (Lib.tabIs_alloc htab _)
    change Calls Tryd.prog 32 _ _ _ at HN
    have hH0 := holds0 w 58 (Lib.nDigits u) (by omega)
    have HF := Any.internal_strconv_formatBase10 laysFB w.heap.size 0 24 u (Array.replicate (Lib.nDigits u) 0) (w.alloc (.cells Lib.zeros24 58)) hH0 (by rw [Array.size_replicate]; exact Lib.lt_pow_nDigits u) hu (by rw [Array.size_replicate]; omega)
    rw [Array.size_replicate] at HF
    change Calls Tryd.prog 33 _ _ _ at HF
    have hal : Tryd.prog.arrayLen 58 = 24 := by kernel_rfl
    have hsl : ∀ W, (Instr.sliceAt 58 (.pointer (some ⟨w.heap.size, 0, none⟩)) none (some (.int .i64 (Lib.nDigits u : Int))) none).run Tryd.prog W = .ok (.slice (some ⟨w.heap.size, 0, none⟩) (Lib.nDigits u) 24) W := fun W => by
      rw [run_sliceAt_array_h W 58 ⟨w.heap.size, 0, none⟩ (by simp [Program.arrayLen, Program.elem, Tryd.underlying58]) .i64 (Lib.nDigits u : Int) (by omega) (by rw [hal]; omega)]
      rw [hal]
      rfl
    have HH : Hid (Holds u8v (w.alloc (.cells Lib.zeros24 58)) w.heap.size 0 (Array.replicate (Lib.nDigits u) 0)) := hH0
    clear hH0 hal htab h
    go_enter Tryd.func25, Tryd.ntmps25
    go_wp2_with (first | (go_at_call 32; refine HN.mono ?_; rintro e w1 ⟨rfl, rfl⟩))
    go_at_call 33
    refine HF.mono ?_
    rintro e w1 ⟨rfl, k, v', dk, rfl, hF⟩
    have hcv : (convert 33 9 (.slice (some ⟨w.heap.size, 0, none⟩) (Lib.nDigits u) 24)).run Tryd.prog ((putRow u8v (w.alloc (.cells Lib.zeros24 58)) w.heap.size 0 dk).drewN k) = .ok (.string ⟨(Lib.decDigits u).toArray⟩) ((putRow u8v (w.alloc (.cells Lib.zeros24 58)) w.heap.size 0 dk).drewN k) := by
      have h := run_convert_bytes_back (P := Tryd.prog) ((putRow u8v (w.alloc (.cells Lib.zeros24 58)) w.heap.size 0 dk).drewN k) 33 9 5 ⟨w.heap.size, 0, none⟩ 24 (Lib.decDigits u) Tryd.underlying33 Tryd.underlying5 Tryd.underlying9 (fun j hj => by
        rw [Lib.row_is_numeral hF j hj, Lib.add_plain, World.cell?_drewN]
        exact cell?_putRow u8v _ w.heap.size 0 _ dk HH.out (by rw [hF.size, Array.size_replicate]) j (by rw [hF.size]; rw [Lib.decDigits_length] at hj; exact hj))
      rw [Lib.decDigits_length] at h
      exact h
    have HBL : Hid (Below w.heap.size w ((putRow u8v (w.alloc (.cells Lib.zeros24 58)) w.heap.size 0 dk).drewN k)) := ((Below.refl _ w).alloc (Nat.le_refl _) _).trans (below_put _ dk k (Nat.le_refl _))
    clear HH hF HF HN
    go_wp2
    go_ret
    exact ⟨rfl, HBL.out⟩
set_option maxRecDepth 100000 in
theorem fmtU_any (u : Nat) (hu : u < 18446744073709551616) (w : World) (htab : Lib.TabIs Tryd.prog w "internal/strconv.uint64pow10" .u64 Lib.pow10Tab) :
    Calls Tryd.prog 16 #[.int .u64 u, .int .i64 10] w fun e w' => e = .returned (bst (Lib.decDigits u)) ∧ Below w.heap.size w w' := by
  have HI := fmtUi_any u hu w htab
  clear htab
  go_enter Tryd.func16, Tryd.ntmps16
  go_wp2_with (go_at_call 25; (with_reducible refine HI.mono ?_); rintro e w1 ⟨rfl, hb⟩)
  go_ret
  exact ⟨rfl, hb⟩
theorem below_grow (w : World) (k : Nat) (os : Array Obj) : Below w.heap.size w (grow (w.drewN k) os) := ⟨rfl, rfl, rfl, by simp [grow, World.drewN], fun j hj => by simp [grow, World.drewN, Array.getElem?_append_left hj]⟩
theorem itoa_any (n : Int) (h0 : -9223372036854775808 ≤ n ∧ n < 9223372036854775808) (w : World) (htab : Lib.TabIs Tryd.prog w "internal/strconv.uint64pow10" .u64 Lib.pow10Tab) :
    Calls Tryd.prog 13 #[.int .i64 n] w fun e w' => e = .returned (bst (Lib.itoa n)) ∧ Below w.heap.size w w' := by
  have h := Any.strconv_Itoa laysIt n h0.1 (by omega) w htab
  change Calls Tryd.prog 13 _ _ _ at h
  refine h.mono ?_
  rintro e w' ⟨rfl, k, os, rfl⟩
  exact ⟨rfl, below_grow _ _ _⟩
theorem fmtI_any (n : Int) (h0 : -9223372036854775808 ≤ n ∧ n < 9223372036854775808) (w : World) (htab : Lib.TabIs Tryd.prog w "internal/strconv.uint64pow10" .u64 Lib.pow10Tab) :
    Calls Tryd.prog 15 #[.int .i64 n, .int .i64 10] w fun e w' => e = .returned (bst (Lib.itoa n)) ∧ Below w.heap.size w w' := by
  have h := Any.strconv_FormatInt_10 laysFI n h0.1 (by omega) w htab
  change Calls Tryd.prog 15 _ _ _ at h
  refine h.mono ?_
  rintro e w' ⟨rfl, k, os, rfl⟩
  exact ⟨rfl, below_grow _ _ _⟩
end Go.Proofs.YtijkokckdbhkcaaDoor
