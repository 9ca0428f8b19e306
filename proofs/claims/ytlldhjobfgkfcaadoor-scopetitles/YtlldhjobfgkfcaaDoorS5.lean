import Derived.Test.YtlldhjobfgkfcaaDoorS1
import Derived.Test.YtlldhjobfgkfcaaDoorS4
import Derived.Test.YtlldhjobfgkfcaaDoorSShelf
import Derived.Laws.IdiomStrings
import Derived.Lib.ItoaLen
import Derived.Lib.AppendIntMem
import Derived.WalkLawsBesides
import Derived.Deep.RegionHeld3
namespace Go.Proofs.YtlldhjobfgkfcaaDoor
open Go.ChangeShapes Go.WideShapes Go.ChangeAt Go.RowKit
set_option linter.unusedVariables false

def hit (x : Plc) (k : Int) : Prop := (x.size < 1 ∧ x.pos = k) ∨ (1 ≤ x.size ∧ x.pos ≤ k ∧ k - x.pos < x.size)
instance (x : Plc) (k : Int) : Decidable (hit x k) := by unfold hit; infer_instance
def titleI (x : Plc) (k : Int) : ByteArray := if x.size < 1 then x.name else x.name ++ ⟨#[91]⟩ ++ ⟨(Lib.decDigits (k - x.pos).toNat).toArray⟩ ++ ⟨#[93]⟩
def titleF (N : Nat → Plc) (n : Nat) (k : Int) : ByteArray × Int :=
  match (List.range n).find? (fun j => decide (hit (N j) k)) with
  | none => (⟨#[]⟩, 51)
  | some j => (titleI (N j) k, 0)
theorem find_none {n : Nat} {f : Nat → Bool} (h : ∀ j, j < n → f j = false) : (List.range n).find? f = none := by
  rw [List.find?_eq_none]
  intro j hj
  rw [h j (List.mem_range.1 hj)]
  decide
theorem find_at {f : Nat → Bool} : ∀ {n j : Nat}, j < n → (∀ i, i < j → f i = false) → f j = true → (List.range n).find? f = some j
  | n + 1, j, hj, hlt, hf => by
    rw [List.range_succ, List.find?_append]
    by_cases h : j < n
    · rw [find_at h hlt hf]
      rfl
    · obtain rfl : j = n := by omega
      rw [find_none hlt]
      simp [hf]
theorem titleF_none {N : Nat → Plc} {n : Nat} {k : Int} (h : ∀ j, j < n → ¬ hit (N j) k) : titleF N n k = (⟨#[]⟩, 51) := by
  unfold titleF
  rw [find_none (fun j hj => decide_eq_false (h j hj))]
theorem titleF_at {N : Nat → Plc} {n : Nat} {k : Int} {j : Nat} (hj : j < n) (hlt : ∀ i, i < j → ¬ hit (N i) k) (he : hit (N j) k) : titleF N n k = (titleI (N j) k, 0) := by
  unfold titleF
  rw [find_at hj (fun i hi => decide_eq_false (hlt i hi)) (decide_eq_true he)]
theorem meas {n L : Nat} (h : n < L) : L - (intOf (.int .i64 ((n : Int) + 1))).toNat < L - (intOf (.int .i64 (n : Int))).toNat := by
  simp only [intOf]
  omega
theorem grow_below {w : World} (k : Nat) (os : Array Obj) : Below w.heap.size w (Sort.grow (w.drewN k) os) :=
  ⟨rfl, rfl, rfl, by simp [Sort.grow, World.drewN], fun i hi => by simp [Sort.grow, World.drewN, Array.getElem?_append_left hi]⟩
theorem itoa_any (n : Int) (h0 : -9223372036854775808 ≤ n) (h1 : n ≤ 9223372036854775807) (w : World) (htab : Lib.TabIs Tryd.prog w "internal/strconv.uint64pow10" .u64 Lib.pow10Tab) :
    Calls Tryd.prog 7 #[.int .i64 n] w fun e w' => e = .returned (.string ⟨(Lib.itoa n).toArray⟩) ∧ Below w.heap.size w w' := by
  refine (Any.strconv_Itoa laysItoa n h0 h1 w htab).mono ?_
  rintro e w' ⟨rfl, k, os, rfl⟩
  exact ⟨rfl, grow_below k os⟩
def Tab (w : World) : Prop := Lib.TabIs Tryd.prog w "internal/strconv.uint64pow10" .u64 Lib.pow10Tab
theorem Tab.below {w w' : World} (h : Tab w) (hb : Below w.heap.size w w') : Tab w' := Lib.tabBelow_of_tabIs h w' hb
theorem i64w (a : Int) (h0 : -9223372036854775808 ≤ a) (h1 : a ≤ 9223372036854775807) : IntKind.i64.wrap a = a := by
  rw [IntKind.wrap_i64]
  omega
theorem sz1 (a : ByteArray) (h : a.size ≤ 140737488351232) : a.size + (⟨#[91]⟩ : ByteArray).size ≤ 9223372036854775807 := by
  have : (⟨#[91]⟩ : ByteArray).size = 1 := rfl
  omega
theorem sz2 (a : ByteArray) (D : List UInt8) (h : a.size ≤ 140737488351232) (hd : D.length ≤ 20) : (a ++ ⟨#[91]⟩).size + (⟨D.toArray⟩ : ByteArray).size ≤ 9223372036854775807 := by
  have h1 : (⟨#[91]⟩ : ByteArray).size = 1 := rfl
  have h2 : (⟨D.toArray⟩ : ByteArray).size = D.length := by simp [ByteArray.size]
  rw [ByteArray.size_append]
  omega
theorem sz3 (a : ByteArray) (D : List UInt8) (h : a.size ≤ 140737488351232) (hd : D.length ≤ 20) : (a ++ ⟨#[91]⟩ ++ ⟨D.toArray⟩).size + (⟨#[93]⟩ : ByteArray).size ≤ 9223372036854775807 := by
  have h1 : (⟨#[91]⟩ : ByteArray).size = 1 := rfl
  have h3 : (⟨#[93]⟩ : ByteArray).size = 1 := rfl
  have h2 : (⟨D.toArray⟩ : ByteArray).size = D.length := by simp [ByteArray.size]
  rw [ByteArray.size_append, ByteArray.size_append]
  omega
theorem u64_wrap (a : Int) : IntKind.u64.wrap a = a % 18446744073709551616 := rfl
theorem u64_sub (a b : Int) (h : b ≤ a) (ha : a ≤ 9223372036854775807) (hb : -9223372036854775808 ≤ b) : IntKind.u64.wrap (IntKind.u64.wrap a - IntKind.u64.wrap b) = a - b := by
  simp only [u64_wrap]
  omega
theorem u64_pos (a : Int) (h : 0 ≤ a) (ha : a ≤ 9223372036854775807) : IntKind.u64.wrap a = a := by
  rw [u64_wrap]
  omega
theorem dec_len (u : Nat) (h : u < 18446744073709551616) : (Lib.decDigits u).length ≤ 20 := by
  rw [Lib.decDigits_length]
  exact Lib.nDigits_le20 u (by omega)

set_option maxRecDepth 100000 in
set_option maxHeartbeats 1000000 in
theorem title_any (q : Option Addr) (n d : Nat) (N : Nat → Plc) (k : Int) (hk0 : -9223372036854775808 ≤ k) (hk1 : k ≤ 9223372036854775807) (hN : ∀ i, i < n → PlOk (N i)) (hn : n ≤ 17592186044416) (w : World) (ht : Tab w) (hq : QAt w q n N) :
    Calls Tryd.prog 4 #[sceneV (.slice q n d), .int .i64 k] w fun e w' => e = .returned (.tuple #[.string (titleF N n k).1, .int .i64 (titleF N n k).2]) ∧ Below w.heap.size w w' := by
  have fy : Hid ((∀ j, j < n → ¬ hit (N j) k) → titleF N n k = (⟨#[]⟩, 51)) := titleF_none
  have fn : ∀ j, Hid (j < n → (∀ i, i < j → ¬ hit (N i) k) → hit (N j) k → titleF N n k = (titleI (N j) k, 0)) := fun j => titleF_at
  generalize titleF N n k = res at fy fn ⊢
  obtain ⟨r1, r2⟩ := res
  unfold sceneV
  go_enter Tryd.func4, Tryd.ntmps4
  go_wp2
  go_loopw [11] (fun v wr => ∃ i : Nat, v = .int .i64 i ∧ i ≤ n ∧ Hid (∀ j, j < i → ¬ hit (N j) k) ∧ Below w.heap.size w wr) (fun v _ => n - (intOf v).toNat)
  case atStart => exact ⟨0, rfl, Nat.zero_le _, (fun j hj => by omega : ∀ j, j < 0 → ¬ hit (N j) k), (Below.refl _ _).alloc (Nat.le_refl _) _⟩
  case round =>
    obtain ⟨i, rfl, hi, hsm, hbel⟩ := hrel
    by_cases hlt : i < n
    · obtain h0 | ⟨b, rfl, hl, hc⟩ := hq.below hbel
      · omega
      obtain ⟨x0, x1, x2, x3⟩ := hc i hlt
      have dl : decide ((i : Int) < n) = true := decide_eq_true (by omega)
      have hm := meas hlt
      have hni := fn i
      have hok := hN i hlt
      have hb0 : ∀ o1 : Obj, Below w.heap.size w (wr.alloc o1) := fun o1 => hbel.alloc hbel.size _
      have hT : Hid (∀ o1 : Obj, Tab (wr.alloc o1)) := fun o1 => ht.below (hb0 o1)
      have hsm' : Hid (¬ hit (N i) k → ∀ j, j < i + 1 → ¬ hit (N j) k) := by
        show ¬ hit (N i) k → ∀ j, j < i + 1 → ¬ hit (N j) k
        intro he j hj
        by_cases h : j < i
        · exact hsm.out j h
        · obtain rfl : j = i := by omega
          exact he
      have hres : Hid (hit (N i) k → (r1, r2) = (titleI (N i) k, 0)) := fun he => hni.out hlt hsm.out he
      clear hc hl fn fy hq hN ht hni hsm
      generalize N i = X at x0 x1 x2 x3 hsm' hres hok
      obtain ⟨⟨hp0, hp1⟩, ⟨hs0, hs1⟩, hnm⟩ := hok
      by_cases h1 : X.size < 1
      · have d1 : decide (X.size < 1) = true := decide_eq_true h1
        have d1' : decide (1 ≤ X.size) = false := decide_eq_false (by omega)
        have d1n : decide (X.size ≥ 1) = false := decide_eq_false (by omega)
        by_cases h2 : X.pos = k
        · have hr := hres.out (.inl ⟨h1, h2⟩)
          unfold titleI at hr
          rw [if_pos h1] at hr
          injection hr with e1 e2
          subst e1 e2 h2
          clear hres hsm' hT h1
          go_wp2
          refine bodyPost_ret (by simp [results, Tryd.results4, go_sem]; try rfl) rfl ?_
          exact ⟨rfl, hb0 _⟩
        · have d2 : (X.pos == k) = false := by simpa using h2
          have hs2 := hsm'.out (fun h => by rcases h with h | h <;> omega)
          have hs3 : Hid (∀ j, j < i + 1 → ¬ hit (N j) k) := hs2
          clear hres hsm' hT h1 hs2 h2
          go_wp2
          exact ⟨⟨i + 1, rfl, hlt, hs3, hb0 _⟩, hm⟩
      · have d1 : decide (X.size < 1) = false := decide_eq_false h1
        have d1' : decide (1 ≤ X.size) = true := decide_eq_true (by omega)
        have d1n : decide (X.size ≥ 1) = true := decide_eq_true (by omega)
        by_cases h2 : X.pos ≤ k
        · have d2 : decide (X.pos ≤ k) = true := decide_eq_true h2
          have e1 := u64_sub k X.pos h2 hk1 hp0
          have e2 := u64_pos X.size (by omega) hs1
          by_cases h3 : k - X.pos < X.size
          · have d3 : decide (IntKind.u64.wrap (IntKind.u64.wrap k - IntKind.u64.wrap X.pos) < X.size) = true := by rw [e1]; exact decide_eq_true h3
            have d4 : decide (IntKind.u64.wrap (IntKind.u64.wrap k - IntKind.u64.wrap X.pos) < IntKind.u64.wrap X.size) = true := by rw [e1, e2]; exact decide_eq_true h3
            have hr := hres.out (.inr ⟨by omega, h2, h3⟩)
            unfold titleI at hr
            rw [if_neg h1] at hr
            injection hr with q1 q2
            subst q2
            obtain ⟨u, hu⟩ := Int.eq_ofNat_of_zero_le (show 0 ≤ k - X.pos by omega)
            have e3 : IntKind.i64.wrap (k - X.pos) = (u : Int) := by rw [← hu]; exact i64w (k - X.pos) (by omega) (by omega)
            have hu1 : u < 9223372036854775808 := by omega
            rw [hu, Int.toNat_natCast] at q1
            have HI : ∀ W', Hid (Below (wr.heap.size + 1) (wr.alloc (.cells #[.string X.name, .int .i64 X.typ, .int .i64 X.pos, .int .i64 X.size] 39)) W') → Hid (Calls Tryd.prog 7 #[.int .i64 (IntKind.i64.wrap (k - X.pos))] W' fun e w' => e = .returned (.string ⟨(Lib.decDigits u).toArray⟩) ∧ Hid (Below w.heap.size w w') ∧ w'.cell? ⟨wr.heap.size, 0, none⟩ = some (.string X.name) ∧ w'.cell? ⟨wr.heap.size, 2, none⟩ = some (.int .i64 X.pos)) := fun W' h => by
              have hb' : Below (wr.alloc (.cells #[.string X.name, .int .i64 X.typ, .int .i64 X.pos, .int .i64 X.size] 39)).heap.size (wr.alloc (.cells #[.string X.name, .int .i64 X.typ, .int .i64 X.pos, .int .i64 X.size] 39)) W' := by rw [World.size_alloc]; exact h.out
              rw [e3]
              refine (itoa_any u (by omega) (by omega) W' ((hT.out _).below hb')).mono ?_
              rintro e w' ⟨rfl, hb2⟩
              have hb3 := hb'.trans (hb2.mono hb'.size)
              have hk := (hb3.block wr.heap.size (by simp)).trans (World.alloc_heap_new wr _)
              refine ⟨by rw [Lib.itoa_nonneg], (hb0 _).trans (hb3.mono (hb0 _).size), ?_, ?_⟩
              · unfold World.cell?
                rw [hk]
                rfl
              · unfold World.cell?
                rw [hk]
                rfl
            have hdl := dec_len u (by omega)
            have a1 : ∀ W, (Op.stringOp .add X.name ⟨#[91]⟩).run Tryd.prog W = .ok (.string (X.name ++ ⟨#[91]⟩)) W := fun W => run_string_add_sum (P := Tryd.prog) (w := W) X.name ⟨#[91]⟩ (sz1 _ hnm)
            have a2 : ∀ W, (Op.stringOp .add (X.name ++ ⟨#[91]⟩) ⟨(Lib.decDigits u).toArray⟩).run Tryd.prog W = .ok (.string (X.name ++ ⟨#[91]⟩ ++ ⟨(Lib.decDigits u).toArray⟩)) W := fun W => run_string_add_sum (P := Tryd.prog) (w := W) (X.name ++ ⟨#[91]⟩) ⟨(Lib.decDigits u).toArray⟩ (sz2 _ _ hnm hdl)
            have a3 : ∀ W, (Op.stringOp .add (X.name ++ ⟨#[91]⟩ ++ ⟨(Lib.decDigits u).toArray⟩) ⟨#[93]⟩).run Tryd.prog W = .ok (.string r1) W := fun W => by rw [q1]; exact run_string_add_sum (P := Tryd.prog) (w := W) (X.name ++ ⟨#[91]⟩ ++ ⟨(Lib.decDigits u).toArray⟩) ⟨#[93]⟩ (sz3 _ _ hnm hdl)
            have bd : Hid (Below (wr.heap.size + 1) (wr.alloc (.cells #[.string X.name, .int .i64 X.typ, .int .i64 X.pos, .int .i64 X.size] 39)) ((wr.alloc (.cells #[.string X.name, .int .i64 X.typ, .int .i64 X.pos, .int .i64 X.size] 39)).drew)) := (Below.refl _ _).drew
            clear q1
            generalize Lib.decDigits u = D at HI a2 a3 hdl
            clear hres hsm' hT h1 h2 h3 hu hb0 e1 e2 e3 hdl hm
            go_wp2
            go_region_held3 (fun w' => w'.cell? ⟨wr.heap.size, 0, none⟩ = some (.string X.name) ∧ w'.cell? ⟨wr.heap.size, 2, none⟩ = some (.int .i64 X.pos)) (first | exact ⟨z1, z2⟩ | go_keep) ((go_at_call 7; (with_reducible refine ((HI _ bd).out).mono ?_); rintro e w1 ⟨rfl, hb5, z1, z2⟩))
            go_wp2
            refine bodyPost_ret (by simp [results, Tryd.results4, go_sem]; try rfl) rfl ?_
            exact ⟨rfl, hb5.out⟩
          · have d3 : decide (IntKind.u64.wrap (IntKind.u64.wrap k - IntKind.u64.wrap X.pos) < X.size) = false := by rw [e1]; exact decide_eq_false h3
            have d4 : decide (IntKind.u64.wrap (IntKind.u64.wrap k - IntKind.u64.wrap X.pos) < IntKind.u64.wrap X.size) = false := by rw [e1, e2]; exact decide_eq_false h3
            have hs2 := hsm'.out (fun h => by rcases h with h | h <;> omega)
            have hs3 : Hid (∀ j, j < i + 1 → ¬ hit (N j) k) := hs2
            clear hres hsm' hT h1 hs2 h2 h3 e1 e2
            go_wp2
            exact ⟨⟨i + 1, rfl, hlt, hs3, hb0 _⟩, hm⟩
        · have d2 : decide (X.pos ≤ k) = false := decide_eq_false h2
          have hs2 := hsm'.out (fun h => by rcases h with h | h <;> omega)
          have hs3 : Hid (∀ j, j < i + 1 → ¬ hit (N j) k) := hs2
          clear hres hsm' hT h1 hs2 h2
          go_wp2
          exact ⟨⟨i + 1, rfl, hlt, hs3, hb0 _⟩, hm⟩
    · have dl : decide ((i : Int) < n) = false := decide_eq_false (by omega)
      obtain rfl : i = n := by omega
      have hres := fy.out hsm.out
      injection hres with r1 r2
      subst r1 r2
      clear fy fn hq hN
      go_wp2
      refine bodyPost_ret (by simp [results, Tryd.results4, go_sem]; try rfl) rfl ?_
      exact ⟨rfl, hbel⟩
end Go.Proofs.YtlldhjobfgkfcaaDoor
