import Derived.Test.YtlldhjobfgkfcaaDoorS5
namespace Go.Proofs.YtlldhjobfgkfcaaDoor
open Go.ChangeShapes Go.WideShapes Go.ChangeAt Go.RowKit
set_option linter.unusedVariables false

theorem dec_step {u : Nat} (h : ¬ u < 10) : Lib.decDigits u = Lib.decDigits (u / 10) ++ [UInt8.ofNat (48 + u % 10)] := by rw [Lib.decDigits, dif_neg h]

theorem str_app (a b : List UInt8) : (⟨a.toArray⟩ : ByteArray) ++ (⟨b.toArray⟩ : ByteArray) = ⟨(a ++ b).toArray⟩ := by
  apply ByteArray.ext
  simp [ByteArray.data_append]

set_option maxHeartbeats 1000000 in
theorem digits_any (u0 : Nat) (hu : u0 < 18446744073709551616) (w : World) :
    Calls Tryd.prog 8 #[.int .u64 u0] w fun e w' => e = .returned (.string ⟨(Lib.decDigits u0).toArray⟩) ∧ Below w.heap.size w w' := by
  have hl := dec_len u0 hu
  go_enter Tryd.func8, Tryd.ntmps8
  go_wp2
  go_loopw [0, 3] (fun vn vs wr => ∃ (u : Nat) (s : List UInt8), vn = .int .u64 u ∧ vs = .string ⟨s.toArray⟩ ∧ u ≤ u0 ∧ Lib.decDigits u0 = Lib.decDigits u ++ s ∧ Below w.heap.size w wr) (fun vn _ _ => (intOf vn).toNat)
  case atStart => exact ⟨u0, [], rfl, rfl, Nat.le_refl _, by simp, Below.refl _ _⟩
  case round =>
    obtain ⟨u, s, rfl, rfl, hle, hdec, hb⟩ := hrel
    have hsl : s.length ≤ 20 := by
      have := congrArg List.length hdec
      simp at this
      omega
    have HD : Hid (Lib.decDigits u0 = Lib.decDigits u ++ s) := hdec
    clear hdec
    have hsz := hb.size
    obtain ⟨c, hc⟩ : ∃ c, c = UInt8.ofNat (48 + u % 10) := ⟨_, rfl⟩
    have e1 : ((c.toNat : Nat) : Int) = 48 + (u : Int) % 10 := by
      rw [hc, UInt8.toNat_ofNat']
      omega
    have HC : Hid (c = UInt8.ofNat (48 + u % 10)) := hc
    clear hc
    have hconv : (convert 42 9 (.slice (some ⟨wr.heap.size, 0, none⟩) 1 1)).run Tryd.prog (wr.alloc (.cells #[.int .u8 (48 + (u : Int) % 10)] 5)) = .ok (.string ⟨#[c]⟩) (wr.alloc (.cells #[.int .u8 (48 + (u : Int) % 10)] 5)) :=
      run_convert_bytes_back (P := Tryd.prog) (wr.alloc (.cells #[.int .u8 (48 + (u : Int) % 10)] 5)) 42 9 5 ⟨wr.heap.size, 0, none⟩ 1 [c] Tryd.underlying42 Tryd.underlying5 Tryd.underlying9 (by
      intro j hj
      have hj0 : j = 0 := by simpa using hj
      subst hj0
      simp [Addr.add, e1])
    have hsum : (⟨#[c]⟩ : ByteArray).size + (⟨s.toArray⟩ : ByteArray).size ≤ 9223372036854775807 := by simp [ByteArray.size]; omega
    have hadd : ∀ W, (Op.stringOp .add ⟨#[c]⟩ ⟨s.toArray⟩).run Tryd.prog W = .ok (.string (⟨#[c]⟩ ++ ⟨s.toArray⟩)) W := fun W => run_string_add_sum (P := Tryd.prog) (w := W) ⟨#[c]⟩ ⟨s.toArray⟩ hsum
    clear e1 hsum
    by_cases h10 : u < 10
    · have hz : ((u : Int) / 10 == 0) = true := by rw [beq_iff_eq]; omega
      go_wp2_with fail
      go_ret
      rw [HD.out, Lib.decDigits_one h10]
      refine ⟨?_, hb.alloc hsz _⟩
      have e2 : UInt8.ofNat (48 + u) = c := by rw [HC.out, show u % 10 = u by omega]
      rw [e2]
      exact congrArg (fun x => Ending.returned (Value.string x)) (str_app [c] s)
    · have hz : ((u : Int) / 10 == 0) = false := by rw [beq_eq_false_iff_ne]; omega
      go_wp2_with fail
      go_roundw
      case rel => exact ⟨u / 10, c :: s, by go_num, congrArg Value.string (str_app [c] s), by omega, by rw [HD.out, dec_step h10, HC.out]; simp, hb.alloc hsz _⟩
      case measure => simp [intOf]; omega


set_option maxRecDepth 100000 in
set_option maxHeartbeats 1000000 in
theorem rtitle_any (q : Option Addr) (n d : Nat) (N : Nat → Plc) (k : Int) (hk0 : -9223372036854775808 ≤ k) (hk1 : k ≤ 9223372036854775807) (hN : ∀ i, i < n → PlOk (N i)) (hn : n ≤ 17592186044416) (w : World) (hq : QAt w q n N) :
    Calls Tryd.prog 6 #[sceneV (.slice q n d), .int .i64 k] w fun e w' => e = .returned (.tuple #[.string (titleF N n k).1, .int .i64 (titleF N n k).2]) ∧ Below w.heap.size w w' := by
  have fy : Hid ((∀ j, j < n → ¬ hit (N j) k) → titleF N n k = (⟨#[]⟩, 51)) := titleF_none
  have fn : ∀ j, Hid (j < n → (∀ i, i < j → ¬ hit (N i) k) → hit (N j) k → titleF N n k = (titleI (N j) k, 0)) := fun j => titleF_at
  generalize titleF N n k = res at fy fn ⊢
  obtain ⟨r1, r2⟩ := res
  have C3 := (cells11 (World.alloc_heap_new w (.cells #[.slice none 0 0, .slice none 0 0, .slice none 0 0, .slice q n d, .slice none 0 0, .slice none 0 0, .int .u64 0, .int .u64 0, .int .u64 0, .int .i64 0, .int .i64 0] 33))).2.2.2.1
  have B0 : Below w.heap.size w (w.alloc (.cells #[.slice none 0 0, .slice none 0 0, .slice none 0 0, .slice q n d, .slice none 0 0, .slice none 0 0, .int .u64 0, .int .u64 0, .int .u64 0, .int .i64 0, .int .i64 0] 33)) := (Below.refl _ w).alloc (Nat.le_refl _) _
  have S0 := World.size_alloc w (.cells #[.slice none 0 0, .slice none 0 0, .slice none 0 0, .slice q n d, .slice none 0 0, .slice none 0 0, .int .u64 0, .int .u64 0, .int .u64 0, .int .i64 0, .int .i64 0] 33)
  have hq' := hq.below B0
  clear hq
  unfold sceneV
  go_enter Tryd.func6, Tryd.ntmps6
  go_wp2
  obtain ⟨w0, hw0⟩ : ∃ w0, w.alloc (.cells #[.slice none 0 0, .slice none 0 0, .slice none 0 0, .slice q n d, .slice none 0 0, .slice none 0 0, .int .u64 0, .int .u64 0, .int .u64 0, .int .i64 0, .int .i64 0] 33) = w0 := ⟨_, rfl⟩
  rw [hw0] at C3 B0 S0 hq' ⊢
  clear hw0
  have hS : Hid (w0.heap.size = w.heap.size + 1) := S0
  clear S0
  go_loopw [6] (fun v wr => ∃ i : Nat, v = .int .i64 i ∧ i ≤ n ∧ Hid (∀ j, j < i → ¬ hit (N j) k) ∧ Below w0.heap.size w0 wr) (fun v _ => n - (intOf v).toNat)
  case atStart => exact ⟨0, rfl, Nat.zero_le _, (fun j hj => by omega : ∀ j, j < 0 → ¬ hit (N j) k), Below.refl _ _⟩
  case round =>
    obtain ⟨i, rfl, hi, hsm, hbel⟩ := hrel
    have c3 : wr.cell? ⟨w.heap.size, 3, none⟩ = some (.slice q n d) := (cell_below hbel (by show w.heap.size < _; rw [hS.out]; exact Nat.lt_succ_self _)).trans C3
    have hw : Below w.heap.size w wr := B0.trans (hbel.mono (by rw [hS.out]; exact Nat.le_succ _))
    by_cases hlt : i < n
    · obtain h0 | ⟨b, rfl, hl, hc⟩ := hq'.below hbel
      · omega
      obtain ⟨x0, x1, x2, x3⟩ := hc i hlt
      have dl : decide ((i : Int) < n) = true := decide_eq_true (by omega)
      have hm := meas hlt
      have hni := fn i
      have hok := hN i hlt
      have hb0 : ∀ o1 : Obj, Below w.heap.size w (wr.alloc o1) := fun o1 => hw.alloc hw.size _
      have hb1 : ∀ o1 : Obj, Below w0.heap.size w0 (wr.alloc o1) := fun o1 => hbel.alloc hbel.size _
      have hsm' : Hid (¬ hit (N i) k → ∀ j, j < i + 1 → ¬ hit (N j) k) := by
        show ¬ hit (N i) k → ∀ j, j < i + 1 → ¬ hit (N j) k
        intro he j hj
        by_cases h : j < i
        · exact hsm.out j h
        · obtain rfl : j = i := by omega
          exact he
      have hres : Hid (hit (N i) k → (r1, r2) = (titleI (N i) k, 0)) := fun he => hni.out hlt hsm.out he
      clear hc hl fn fy hq' hN hni hsm C3
      generalize N i = X at x0 x1 x2 x3 hsm' hres hok
      obtain ⟨⟨hp0, hp1⟩, ⟨hs0, hs1⟩, hnm⟩ := hok
      by_cases h1 : X.size < 1
      · have d1 : decide (X.size < 1) = true := decide_eq_true h1
        by_cases h2 : X.pos = k
        · have hr := hres.out (.inl ⟨h1, h2⟩)
          unfold titleI at hr
          rw [if_pos h1] at hr
          injection hr with e1 e2
          subst e1 e2 h2
          clear hres hsm' h1
          go_wp2
          refine bodyPost_ret (by simp [results, Tryd.results6, go_sem]; try rfl) rfl ?_
          exact ⟨rfl, hb0 _⟩
        · have d2 : (X.pos == k) = false := by simpa using h2
          have hs2 := hsm'.out (fun h => by rcases h with h | h <;> omega)
          have hs3 : Hid (∀ j, j < i + 1 → ¬ hit (N j) k) := hs2
          clear hres hsm' h1 hs2 h2
          go_wp2
          exact ⟨⟨i + 1, rfl, hlt, hs3, hb1 _⟩, hm⟩
      · have d1 : decide (X.size < 1) = false := decide_eq_false h1
        by_cases h2 : X.pos ≤ k
        · have d2 : decide (k < X.pos) = false := decide_eq_false (by omega)
          have e1 := u64_sub k X.pos h2 hk1 hp0
          have e2 := u64_pos X.size (by omega) hs1
          by_cases h3 : k - X.pos < X.size
          · have d3 : decide (IntKind.u64.wrap (IntKind.u64.wrap k - IntKind.u64.wrap X.pos) < X.size) = true := by rw [e1]; exact decide_eq_true h3
            have d4 : decide (IntKind.u64.wrap (IntKind.u64.wrap k - IntKind.u64.wrap X.pos) < IntKind.u64.wrap X.size) = true := by rw [e1, e2]; exact decide_eq_true h3
            have hr := hres.out (.inr ⟨by omega, h2, h3⟩)
            unfold titleI at hr
            rw [if_neg h1] at hr
            injection hr with q1 q2
            subst q2
            obtain ⟨u, hu⟩ := Int.eq_ofNat_of_zero_le (show 0 ≤ k - X.pos by omega)
            have e3 : IntKind.u64.wrap (IntKind.u64.wrap k - IntKind.u64.wrap X.pos) = (u : Int) := by rw [e1, hu]
            have hu1 : u < 9223372036854775808 := by omega
            rw [hu, Int.toNat_natCast] at q1
            have HI : ∀ W', Hid (Below (wr.heap.size + 1) (wr.alloc (.cells #[.string X.name, .int .i64 X.typ, .int .i64 X.pos, .int .i64 X.size] 39)) W') → Hid (Calls Tryd.prog 8 #[.int .u64 (IntKind.u64.wrap (IntKind.u64.wrap k - IntKind.u64.wrap X.pos))] W' fun e w' => e = .returned (.string ⟨(Lib.decDigits u).toArray⟩) ∧ Hid (Below w.heap.size w w') ∧ w'.cell? ⟨wr.heap.size, 0, none⟩ = some (.string X.name) ∧ w'.cell? ⟨wr.heap.size, 2, none⟩ = some (.int .i64 X.pos)) := fun W' h => by
              have hb' : Below (wr.alloc (.cells #[.string X.name, .int .i64 X.typ, .int .i64 X.pos, .int .i64 X.size] 39)).heap.size (wr.alloc (.cells #[.string X.name, .int .i64 X.typ, .int .i64 X.pos, .int .i64 X.size] 39)) W' := by rw [World.size_alloc]; exact h.out
              rw [e3]
              refine (digits_any u (by omega) W').mono ?_
              rintro e w' ⟨rfl, hb2⟩
              have hb3 := hb'.trans (hb2.mono hb'.size)
              have hk := (hb3.block wr.heap.size (by simp)).trans (World.alloc_heap_new wr _)
              refine ⟨rfl, (hb0 _).trans (hb3.mono (hb0 _).size), ?_, ?_⟩
              · unfold World.cell?
                rw [hk]
                rfl
              · unfold World.cell?
                rw [hk]
                rfl
            have hdl := dec_len u (by omega)
            have a1 : ∀ W, (Op.stringOp .add X.name ⟨#[91]⟩).run Tryd.prog W = .ok (.string (X.name ++ ⟨#[91]⟩)) W := fun W => run_string_add_sum (P := Tryd.prog) (w := W) X.name ⟨#[91]⟩ (sz1 _ hnm)
            have a2 : ∀ W, (Op.stringOp .add (X.name ++ ⟨#[91]⟩) ⟨(Lib.decDigits u).toArray⟩).run Tryd.prog W = .ok (.string (X.name ++ ⟨#[91]⟩ ++ ⟨(Lib.decDigits u).toArray⟩)) W := fun W => run_string_add_sum (P := Tryd.prog) (w := W) (X.name ++ ⟨#[91]⟩) ⟨(Lib.decDigits u).toArray⟩ (sz2 _ _ hnm hdl)
            have a3 : ∀ W, (Op.stringOp .add (X.name ++ ⟨#[91]⟩ ++ ⟨(Lib.decDigits u).toArray⟩) ⟨#[93]⟩).run Tryd.prog W = .ok (.string r1) W := fun W => by rw [q1]; exact run_string_add_sum (P := Tryd.prog) (w := W) (X.name ++ ⟨#[91]⟩ ++ ⟨(Lib.decDigits u).toArray⟩) ⟨#[93]⟩ (sz3 _ _ hnm hdl)
            have bd : Hid (Below (wr.heap.size + 1) (wr.alloc (.cells #[.string X.name, .int .i64 X.typ, .int .i64 X.pos, .int .i64 X.size] 39)) ((wr.alloc (.cells #[.string X.name, .int .i64 X.typ, .int .i64 X.pos, .int .i64 X.size] 39)).drew)) := (Below.refl _ _).drew
            clear q1
            generalize Lib.decDigits u = D at HI a2 a3 hdl
            clear hres hsm' h1 h2 h3 hu hb0 hb1 e1 e2 e3 hdl hm
            go_wp2
            go_region_held3 (fun w' => w'.cell? ⟨wr.heap.size, 0, none⟩ = some (.string X.name) ∧ w'.cell? ⟨wr.heap.size, 2, none⟩ = some (.int .i64 X.pos)) (first | exact ⟨z1, z2⟩ | go_keep) ((go_at_call 8; (with_reducible refine ((HI _ bd).out).mono ?_); rintro e w1 ⟨rfl, hb5, z1, z2⟩))
            go_wp2
            refine bodyPost_ret (by simp [results, Tryd.results6, go_sem]; try rfl) rfl ?_
            exact ⟨rfl, hb5.out⟩
          · have d3 : decide (IntKind.u64.wrap (IntKind.u64.wrap k - IntKind.u64.wrap X.pos) < X.size) = false := by rw [e1]; exact decide_eq_false h3
            have d4 : decide (IntKind.u64.wrap (IntKind.u64.wrap k - IntKind.u64.wrap X.pos) < IntKind.u64.wrap X.size) = false := by rw [e1, e2]; exact decide_eq_false h3
            have hs2 := hsm'.out (fun h => by rcases h with h | h <;> omega)
            have hs3 : Hid (∀ j, j < i + 1 → ¬ hit (N j) k) := hs2
            clear hres hsm' h1 hs2 h2 h3 e1 e2
            go_wp2
            exact ⟨⟨i + 1, rfl, hlt, hs3, hb1 _⟩, hm⟩
        · have d2 : decide (k < X.pos) = true := decide_eq_true (by omega)
          have hs2 := hsm'.out (fun h => by rcases h with h | h <;> omega)
          have hs3 : Hid (∀ j, j < i + 1 → ¬ hit (N j) k) := hs2
          clear hres hsm' h1 hs2 h2
          go_wp2
          exact ⟨⟨i + 1, rfl, hlt, hs3, hb1 _⟩, hm⟩
    · have dl : decide ((i : Int) < n) = false := decide_eq_false (by omega)
      obtain rfl : i = n := by omega
      have hres := fy.out hsm.out
      injection hres with r1 r2
      subst r1 r2
      clear fy fn hq' hN
      go_wp2
      refine bodyPost_ret (by simp [results, Tryd.results6, go_sem]; try rfl) rfl ?_
      exact ⟨rfl, hw⟩
end Go.Proofs.YtlldhjobfgkfcaaDoor
