import Derived.Test.YtcibmbcfpecgpaaPackAll
import Derived.Maps.AppendAt
namespace Go.Proofs.Ytcibmbcfpecgpaa
open Go.ChangeShapes Go.WideShapes Go.ChangeAt Go.RowKit
set_option linter.unusedVariables false

theorem infoQ {i? : Option TypeInfo} {z : Value} {s b : Nat} (h : i?.map (fun i => (i.zero, i.size, i.bytes)) = some (some z, s, b)) : ∃ i, i? = some i ∧ i.zero = some z ∧ i.size = s ∧ i.bytes = b := by
  cases i? with
  | none => cases h
  | some i =>
    simp at h
    exact ⟨i, rfl, h.1, h.2.1, h.2.2⟩
theorem own_base2 {w : World} {base E sz n : Nat} {v : Value} {xs : List Value} (h : w.ownsRow base E sz v n xs) {g : Nat} (hg : v.ownBlock = some g) : base ≤ g := (h.lt g hg).1

set_option maxRecDepth 100000 in
set_option maxHeartbeats 1000000 in
theorem rNum_any (z : Nat) (hz : z < 18446744073709551616) (w : World) :
    Calls Try.prog 19 #[.int .u64 z] w fun e w' => ∃ v', e = .returned v' ∧ w'.ownsRow w.heap.size 5 1 v' (enc z).length (bcs (enc z)) ∧ Below w.heap.size w w' := by
  obtain ⟨i5, hi5, ha5, hb5, hc5⟩ := infoQ Try.info5'
  have l10 := enc_len10 z hz
  go_enter Try.func19, Try.ntmps19
  go_wp2
  go_loopw [0, 3] (fun v0 v3 wr => ∃ (m : Nat) (acc : List Nat), v0 = .int .u64 m ∧ m ≤ z ∧ wr.ownsRow w.heap.size 5 1 v3 acc.length (bcs acc) ∧ enc z = acc ++ enc m ∧ Below w.heap.size w wr) (fun v _ _ => (intOf v).toNat)
  case atStart => exact ⟨z, [], rfl, Nat.le_refl _, World.ownsRow_nil _ _ _ _, rfl, Below.refl _ _⟩
  case round =>
    obtain ⟨m, acc, rfl, hm, ho, hE, hb⟩ := hrel
    have hal : acc.length ≤ 10 := by
      have := congrArg List.length hE
      simp at this
      omega
    have p1 : acc.length + 1 ≤ maxLen := by unfold maxLen; omega
    have p2 : (acc.length + 1) * 1 ≤ 140737488355328 := by omega
    by_cases h128 : m < 128
    · have d1 : decide ((m : Int) ≥ 128) = false := decide_eq_false (by omega)
      have d1' : decide ((128 : Int) ≤ m) = false := decide_eq_false (by omega)
      have d1n : decide (128 ≤ m) = false := decide_eq_false (by omega)
      have hb2 : Hid (Below w.heap.size w (wr.alloc (.cells #[.int .u8 m] 5))) := hb.alloc hb.size _
      have ho2 : Hid ((wr.alloc (.cells #[.int .u8 m] 5)).ownsRow w.heap.size 5 1 u3 acc.length (bcs acc)) := ho.alloc _
      have hn2 : Hid (∀ j u, [Value.int .u8 m][j]? = some u → (wr.alloc (.cells #[.int .u8 m] 5)).cell? ((⟨wr.heap.size, 0, none⟩ : Addr).add j) = some u) := news_one' _ _ _ _ rfl
      have HE : Hid (enc z = acc ++ [m]) := by
        show enc z = _
        rw [hE, enc_lo h128]
      clear ho hE hb
      go_wp2_with (at_builtin; refine wpList_append_own_at _ rfl _ _ 29 rfl w.heap.size 5 i5 _ 1 1 Try.underlying29 hi5 ha5 hb5 hc5 rfl (by decide) _ _ _ rfl ho2.out ⟨wr.heap.size, 0, none⟩ 1 1 [.int .u8 m] rfl rfl hn2.out (by simp [Value.oneCell']) p1 p2 hb2.out.size ?_; intro v' w5 hown5 hgrow5 _ _)
      go_ret
      refine ⟨_, rfl, ?_, hb2.out.grown hgrow5 hb2.out.size (fun r e => own_base2 ho2.out e)⟩
      rw [HE.out, List.length_append, bcs_app]
      exact hown5
    · have d1 : decide ((m : Int) ≥ 128) = true := decide_eq_true (by omega)
      have d1' : decide ((128 : Int) ≤ m) = true := decide_eq_true (by omega)
      have d1n : decide (128 ≤ m) = true := decide_eq_true (by omega)
      have e0 : (m : Int) % 128 + 128 = ((128 + m % 128 : Nat) : Int) := by omega
      have hb2 : Hid (Below w.heap.size w (wr.alloc (.cells #[.int .u8 ((m : Int) % 128 + 128)] 5))) := hb.alloc hb.size _
      have ho2 : Hid ((wr.alloc (.cells #[.int .u8 ((m : Int) % 128 + 128)] 5)).ownsRow w.heap.size 5 1 u3 acc.length (bcs acc)) := ho.alloc _
      have hn2 : Hid (∀ j u, [Value.int .u8 ((m : Int) % 128 + 128)][j]? = some u → (wr.alloc (.cells #[.int .u8 ((m : Int) % 128 + 128)] 5)).cell? ((⟨wr.heap.size, 0, none⟩ : Addr).add j) = some u) := news_one' _ _ _ _ rfl
      have HE : Hid (enc z = (acc ++ [128 + m % 128]) ++ enc (m / 128)) := by
        show enc z = _
        rw [hE, enc_hi h128]
        simp
      have HX : Hid ((m : Int) % 128 + 128 = ((128 + m % 128 : Nat) : Int)) := e0
      clear ho hE hb e0
      go_wp2_with (at_builtin; refine wpList_append_own_at _ rfl _ _ 29 rfl w.heap.size 5 i5 _ 1 1 Try.underlying29 hi5 ha5 hb5 hc5 rfl (by decide) _ _ _ rfl ho2.out ⟨wr.heap.size, 0, none⟩ 1 1 [.int .u8 ((m : Int) % 128 + 128)] rfl rfl hn2.out (by simp [Value.oneCell']) p1 p2 hb2.out.size ?_; intro v' w5 hown5 hgrow5 _ _)
      have hown6 : w5.ownsRow w.heap.size 5 1 v' (acc ++ [128 + m % 128]).length (bcs (acc ++ [128 + m % 128])) := by
        rw [List.length_append, bcs_app]
        rw [HX.out] at hown5
        exact hown5
      have hb6 := hb2.out.grown hgrow5 hb2.out.size (fun r e => own_base2 ho2.out e)
      refine ⟨⟨m / 128, _, by go_num, by omega, hown6, HE.out, hb6⟩, ?_⟩
      simp [intOf]
      omega
end Go.Proofs.Ytcibmbcfpecgpaa
