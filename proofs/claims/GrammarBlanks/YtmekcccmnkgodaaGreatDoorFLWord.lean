import Derived.Test.YtmekcccmnkgodaaGreatDoorFLSpan
namespace Go.Proofs.YtmekcccmnkgodaaGreatDoor
open Go.ChangeShapes Go.WideShapes Go.ChangeAt Go.RowKit
set_option linter.unusedVariables false

theorem wdK_eq (t : Bs) : ∀ (n k : Nat), wdK t (n + 1) k = if spl k = t then k else wdK t n (k + 1) := fun _ _ => rfl

set_option maxRecDepth 100000 in
theorem wordKind_any (t : Bs) (w : World) (g : Sp w) :
    Calls Tryz.prog 88 #[.string ⟨t.toArray⟩] w fun e w' => e = .returned (.int .i64 (wordK t)) ∧ w' = w := by
  go_enter Tryz.func88, Tryz.ntmps88
  go_wp2
  go_loop [3] (fun v => ∃ k n : Nat, v = .int .i64 k ∧ k + n = 41 ∧ 10 ≤ k ∧ Hid (wordK t = wdK t n k)) (fun v => 41 - (intOf v).toNat)
  case atStart => exact ⟨10, 31, rfl, rfl, by omega, rfl⟩
  case round =>
    obtain ⟨k, n, rfl, hkn, hk, hinv⟩ := hrel
    cases n with
    | zero =>
      have d0 : decide ((k : Int) ≤ 40) = false := decide_eq_false (by omega)
      have e : Hid (wordK t = 1) := by show wordK t = 1; rw [hinv.out]; rfl
      clear hinv
      go_wp2
      go_ret
      exact ⟨by rw [e.out]; rfl, rfl⟩
    | succ n =>
      have d0 : decide ((k : Int) ≤ 40) = true := decide_eq_true (by omega)
      have hc := g k (by omega)
      by_cases he : spl k = t
      · have hs : (spl k == t) = true := by simpa using he
        have e : Hid (wordK t = k) := by show wordK t = k; rw [hinv.out, wdK_eq, if_pos he]
        clear hinv g he
        go_wp2
        go_ret
        exact ⟨by rw [e.out]; rfl, rfl⟩
      · have hs : (spl k == t) = false := by simpa using he
        have e : Hid (wordK t = wdK t n (k + 1)) := by show wordK t = _; rw [hinv.out, wdK_eq, if_neg he]
        clear hinv g he
        go_wp2
        go_round
        case rel => exact ⟨k + 1, n, by go_num, by omega, by omega, e⟩
        case measure => simp [intOf]; omega

/-- a token as a value -/
def tokV (k : Int) (t : Bs) (v : Nat) (ln cl : Int) : Value := .agg #[.int .i64 k, .string ⟨t.toArray⟩, .int .u64 v, .int .i64 ln, .int .i64 cl]
def rdV : Rd → Value
  | .err e => .tuple #[tokV 0 [] 0 0 0, .int .i64 e]
  | .ok k t v => .tuple #[tokV k t v 0 0, .int .i64 0]
/-- what readName makes of a text -/
def rdN (s : Bs) : Rd := if (s.takeWhile pN).length > 31 then .err 33 else .ok (wordK (s.takeWhile pN)) (s.takeWhile pN) 0

theorem take_tw (p : UInt8 → Bool) (s : Bs) : s.take (s.takeWhile p).length = s.takeWhile p := by
  have h := (List.takeWhile_prefix (l := s) p)
  exact (List.prefix_iff_eq_take.1 h).symm

abbrev tkT : TypeId := 40
/-- a new block lies on through what keeps all that lay -/
theorem new_kept {w w' : World} {o : Obj} (hb : Below (w.alloc o).heap.size (w.alloc o) w') : w'.heap[w.heap.size]? = some o ∧ Below w.heap.size w w' := by
  refine ⟨(hb.block w.heap.size (by simp)).trans (World.alloc_heap_new w o), ?_⟩
  exact ((Below.refl _ w).alloc (Nat.le_refl _) o).trans (hb.mono (by simp))
theorem below_setRow {n : Nat} {w : World} {g : Nat} (h : n ≤ g) (cs : Array Value) : Below n w (w.setRow g cs) :=
  ⟨rfl, rfl, rfl, by simp, fun k hk => setRow_other w g k cs (by omega)⟩
/-- a token's block, written whole -/
theorem row5 {n : Nat} {w w' : World} {g : Nat} {old : Array Value} {t : TypeId} (hg : w'.heap[g]? = some (.cells old t (0, 0))) (hb : Below n w w') (hn : n ≤ g) (c0 c1 c2 c3 c4 : Value) :
    ∃ w2, w'.setRow g #[c0, c1, c2, c3, c4] = w2 ∧ w2.heap[g]? = some (.cells #[c0, c1, c2, c3, c4] t (0, 0)) ∧ w2.cell? ⟨g, 0, none⟩ = some c0 ∧ w2.cell? ⟨g, 1, none⟩ = some c1 ∧ w2.cell? ⟨g, 2, none⟩ = some c2 ∧ w2.cell? ⟨g, 3, none⟩ = some c3 ∧ w2.cell? ⟨g, 4, none⟩ = some c4 ∧ Below n w w2 := by
  have h2 := setRow_heap w' g old #[c0, c1, c2, c3, c4] t (0, 0) hg
  refine ⟨_, rfl, h2, ?_, ?_, ?_, ?_, ?_, hb.trans (below_setRow hn _)⟩
  all_goals (rw [cell_setRow_same w' g _ old _ t (0, 0) hg]; rfl)
theorem ext_take (s : Bs) (n : Nat) : (⟨s.toArray⟩ : ByteArray).extract 0 n = ⟨(s.take n).toArray⟩ := by
  apply ByteArray.ext
  simp [ByteArray.data_extract]

set_option maxRecDepth 100000 in
theorem readName_any (s : Bs) (hl : s.length ≤ maxLen) (w : World) (g : Sp w) :
    Calls Tryz.prog 66 #[.string ⟨s.toArray⟩] w fun e w' => e = .returned (rdV (rdN s)) ∧ Below w.heap.size w w' := by
  have hlen : (s.takeWhile pN).length ≤ s.length := (List.takeWhile_sublist _).length_le
  have htake : (⟨s.toArray⟩ : ByteArray).extract 0 (s.takeWhile pN).length = ⟨(s.takeWhile pN).toArray⟩ := by rw [ext_take, take_tw pN s]
  have HS : ∀ w', Hid (Calls Tryz.prog 44 #[.string ⟨s.toArray⟩, .func (.func 87) #[] #[]] w' fun e w'' => e = .returned (.int .i64 (s.takeWhile pN).length) ∧ Below w'.heap.size w' w'') := fun w' => span_inName s hl w'
  have HK : ∀ w', Below w.heap.size w w' → Hid (Calls Tryz.prog 88 #[.string ⟨(s.takeWhile pN).toArray⟩] w' fun e w'' => e = .returned (.int .i64 (wordK (s.takeWhile pN))) ∧ w'' = w') := fun w' hb => wordKind_any _ w' (g.keep hb)
  unfold rdN
  clear g
  generalize s.takeWhile pN = t at hlen htake HS HK ⊢
  have hsz : (⟨s.toArray⟩ : ByteArray).size = s.length := by simp [ByteArray.size]
  have htz : (⟨t.toArray⟩ : ByteArray).size = t.length := by simp [ByteArray.size]
  obtain ⟨sb, hsb⟩ : ∃ sb : ByteArray, ⟨s.toArray⟩ = sb := ⟨_, rfl⟩
  rw [hsb] at hsz htake HS ⊢
  by_cases h31 : t.length > 31
  · rw [if_pos h31]
    have d0 : decide ((t.length : Int) > 31) = true := decide_eq_true (by omega)
    go_enter Tryz.func66, Tryz.ntmps66
    go_wp2_with (first | (go_at_call 44; with_reducible refine ((HS _).out).mono ?_; rintro e w' ⟨rfl, hb1⟩; obtain ⟨hg1, hb2⟩ := new_kept hb1; clear hb1) | (refine wpList_store_row rfl _ _ _ rfl w.heap.size #[.int .i64 0, .string ⟨#[]⟩, .int .u64 0, .int .i64 0, .int .i64 0] rfl rfl _ _ hg1 (by kernel_rfl) rfl (by kernel_rfl) ?_; obtain ⟨w2, hw2, hr2, k0, k1, k2, k3, k4, hb3⟩ := row5 hg1 hb2 (Nat.le_refl _) (.int .i64 0) (.string ⟨#[]⟩) (.int .u64 0) (.int .i64 0) (.int .i64 0); rw [hw2]; clear hw2 hg1 hb2))
    refine bodyPost_ret (by simp [results, Tryz.results66, go_sem, k0, k1, k2, k3, k4]; try rfl) rfl ?_
    exact ⟨rfl, hb3⟩
  · rw [if_neg h31]
    have d0 : decide ((t.length : Int) > 31) = false := decide_eq_false (by omega)
    go_enter Tryz.func66, Tryz.ntmps66
    go_wp2_with (first | (go_at_call 44; with_reducible refine ((HS _).out).mono ?_; rintro e w' ⟨rfl, hb1⟩; obtain ⟨hg1, hb2⟩ := new_kept hb1; clear hb1) | (go_at_call 88; with_reducible refine ((HK _ hb2).out).mono ?_; rintro e w'' ⟨rfl, hw⟩; subst w'') | (refine wpList_store_row rfl _ _ _ rfl w.heap.size #[.int .i64 (wordK t), .string ⟨t.toArray⟩, .int .u64 0, .int .i64 0, .int .i64 0] rfl rfl _ _ hg1 (by kernel_rfl) rfl (by kernel_rfl) ?_; obtain ⟨w2, hw2, hr2, k0, k1, k2, k3, k4, hb3⟩ := row5 hg1 hb2 (Nat.le_refl _) (.int .i64 (wordK t)) (.string ⟨t.toArray⟩) (.int .u64 0) (.int .i64 0) (.int .i64 0); rw [hw2]; clear hw2 hg1 hb2))
    refine bodyPost_ret (by simp [results, Tryz.results66, go_sem, k0, k1, k2, k3, k4]; try rfl) rfl ?_
    exact ⟨rfl, hb3⟩

/-- 3.4 -/
def wordP (s : Bs) : Nat := if headIs pL s = true ∧ s.all pN = true ∧ s.length ≤ 31 then wordK s else 0

theorem tw_all_iff (p : UInt8 → Bool) (s : Bs) : s.takeWhile p = s ↔ s.all p = true := by
  induction s with
  | nil => simp
  | cons c r ih =>
    rw [List.takeWhile_cons]
    cases hp : p c with
    | true => simp [hp, ih]
    | false => simp [hp]

set_option maxRecDepth 100000 in
theorem word_any (s : Bs) (hl : s.length ≤ maxLen) (w : World) (g : Sp w) :
    Calls Tryz.prog 92 #[.string ⟨s.toArray⟩] w fun e w' => e = .returned (.int .i64 (wordP s)) ∧ Below w.heap.size w w' := by
  have hsz : (⟨s.toArray⟩ : ByteArray).size = s.length := by simp [ByteArray.size]
  cases s with
  | nil =>
    have e : wordP [] = 0 := rfl
    rw [e]
    go_enter Tryz.func92, Tryz.ntmps92
    go_wp2
    all_goals go_ret
    all_goals exact ⟨rfl, Below.refl _ _⟩
  | cons c r =>
    obtain ⟨s, hs⟩ : ∃ s, c :: r = s := ⟨_, rfl⟩
    have H1 : ∀ w', Hid (Calls Tryz.prog 65 #[.int .i32 (c.toNat : Nat)] w' fun e w'' => e = .returned (.bool (pL c)) ∧ w'' = w') := fun w' => isLetter_any c.toNat w'
    have H2 := readName_any s (by rw [← hs]; exact hl) w g
    have hne : (⟨s.toArray⟩ : ByteArray) ≠ ⟨#[]⟩ := by rw [← hs]; simp
    have hlt : 0 < (⟨s.toArray⟩ : ByteArray).size := by rw [← hs]; simp [ByteArray.size]
    have h0 : ((⟨s.toArray⟩ : ByteArray)[0]'hlt) = c := by subst hs; rfl
    have hP : headIs pL s = pL c := by rw [← hs]; rfl
    rw [hs] at hsz hl ⊢
    have hnil : s ≠ [] := by rw [← hs]; simp
    have hlen : 0 < s.length := by rw [← hs]; simp
    have hE : s.isEmpty = false := by rw [← hs]; rfl
    have hw32 : wrap32 (c.toNat : Int) = c.toNat := by have := c.toNat_lt; unfold wrap32; omega
    have ht : (s.takeWhile pN).length ≤ s.length := (List.takeWhile_sublist _).length_le
    clear hs hne
    cases hc : pL c with
    | false =>
      have e : wordP s = 0 := by unfold wordP; rw [if_neg (by rw [hP, hc]; simp)]
      rw [e]
      rw [hc] at H1
      clear H2
      go_enter Tryz.func92, Tryz.ntmps92
      go_wp2_with (go_at_call 65; with_reducible refine ((H1 _).out).mono ?_; rintro e w' ⟨rfl, hw⟩; subst w')
      go_ret
      exact ⟨rfl, Below.refl _ _⟩
    | true =>
      rw [hc] at H1
      have H2 : Hid (Calls Tryz.prog 66 #[.string ⟨s.toArray⟩] w fun e w' => e = .returned (rdV (rdN s)) ∧ Below w.heap.size w w') := H2
      unfold rdN at H2
      have hta := tw_all_iff pN s
      by_cases h31 : (s.takeWhile pN).length > 31
      · have e : wordP s = 0 := by unfold wordP; rw [if_neg (by omega)]
        rw [e]
        rw [if_pos h31] at H2
        unfold rdV tokV at H2
        clear hta
        go_enter Tryz.func92, Tryz.ntmps92
        go_wp2_with (first | (go_at_call 65; with_reducible refine ((H1 _).out).mono ?_; rintro e w' ⟨rfl, hw⟩; subst w') | (go_at_call 66; with_reducible refine (H2.out).mono ?_; rintro e w1 ⟨rfl, hb1⟩) | (refine wpList_store_row rfl _ _ _ rfl w1.heap.size #[.int .i64 0, .string ⟨#[]⟩, .int .u64 0, .int .i64 0, .int .i64 0] rfl rfl _ _ (World.alloc_heap_new w1 _) (by kernel_rfl) rfl (by kernel_rfl) ?_; obtain ⟨w2, hw2, hr2, k0, k1, k2, k3, k4, hb3⟩ := row5 (World.alloc_heap_new w1 _) (hb1.trans ((Below.refl _ w1).alloc hb1.size _)) hb1.size (.int .i64 0) (.string ⟨#[]⟩) (.int .u64 0) (.int .i64 0) (.int .i64 0); rw [hw2]; clear hw2))
        go_ret
        exact ⟨rfl, hb3⟩
      · rw [if_neg h31] at H2
        unfold rdV tokV at H2
        generalize s.takeWhile pN = t at *
        by_cases hts : t = s
        · have e : wordP s = wordK t := by unfold wordP; rw [if_pos ⟨by rw [hP, hc], hta.1 hts, by rw [← hts]; omega⟩, hts]
          rw [e]
          have hq : (t == s) = true := by simpa using hts
          clear hta hts e
          go_enter Tryz.func92, Tryz.ntmps92
          go_wp2_with (first | (go_at_call 65; with_reducible refine ((H1 _).out).mono ?_; rintro e w' ⟨rfl, hw⟩; subst w') | (go_at_call 66; with_reducible refine (H2.out).mono ?_; rintro e w1 ⟨rfl, hb1⟩) | (refine wpList_store_row rfl _ _ _ rfl w1.heap.size #[.int .i64 (wordK t), .string ⟨t.toArray⟩, .int .u64 0, .int .i64 0, .int .i64 0] rfl rfl _ _ (World.alloc_heap_new w1 _) (by kernel_rfl) rfl (by kernel_rfl) ?_; obtain ⟨w2, hw2, hr2, k0, k1, k2, k3, k4, hb3⟩ := row5 (World.alloc_heap_new w1 _) (hb1.trans ((Below.refl _ w1).alloc hb1.size _)) hb1.size (.int .i64 (wordK t)) (.string ⟨t.toArray⟩) (.int .u64 0) (.int .i64 0) (.int .i64 0); rw [hw2]; clear hw2))
          go_ret
          exact ⟨rfl, hb3⟩
        · have e : wordP s = 0 := by unfold wordP; rw [if_neg (fun h => hts (hta.2 h.2.1))]
          rw [e]
          have hq : (t == s) = false := by simpa using hts
          clear hta hts e
          go_enter Tryz.func92, Tryz.ntmps92
          go_wp2_with (first | (go_at_call 65; with_reducible refine ((H1 _).out).mono ?_; rintro e w' ⟨rfl, hw⟩; subst w') | (go_at_call 66; with_reducible refine (H2.out).mono ?_; rintro e w1 ⟨rfl, hb1⟩) | (refine wpList_store_row rfl _ _ _ rfl w1.heap.size #[.int .i64 (wordK t), .string ⟨t.toArray⟩, .int .u64 0, .int .i64 0, .int .i64 0] rfl rfl _ _ (World.alloc_heap_new w1 _) (by kernel_rfl) rfl (by kernel_rfl) ?_; obtain ⟨w2, hw2, hr2, k0, k1, k2, k3, k4, hb3⟩ := row5 (World.alloc_heap_new w1 _) (hb1.trans ((Below.refl _ w1).alloc hb1.size _)) hb1.size (.int .i64 (wordK t)) (.string ⟨t.toArray⟩) (.int .u64 0) (.int .i64 0) (.int .i64 0); rw [hw2]; clear hw2))
          go_ret
          exact ⟨rfl, hb3⟩
end Go.Proofs.YtmekcccmnkgodaaGreatDoor
