import Derived.Test.YtckhliilndfljaaDoorLWalk
namespace Go.Proofs.YtckhliilndfljaaDoor
open Go.ChangeShapes Go.WideShapes Go.ChangeAt Go.RowKit Go.Shelf
set_option linter.unusedVariables false
attribute [local go_sem] Oper.semAt_some

theorem yield_any {m : Nat} (m' : Nat) {P : Program} {l : Nat} {args : Array Value} {W : World} {R : Ending → World → Prop} (h : YieldAt Fence.wide m P l args W R) : YieldAt Fence.wide m' P l args W R := by
  obtain ⟨fn, tmps, assign, body, hy, hR⟩ := h
  exact ⟨fn, tmps, assign, body, hy, ⟨hR.1, fun c cs _ => hR.2 c cs (room_wide _)⟩⟩

theorem scanT_long (src : Bs) (h : ¬ src.length ≤ 65536) : scanT src = ([], some ⟨30, 1, 1⟩) := by unfold scanT; rw [if_pos (by omega)]
theorem scanT_fits (src : Bs) (h : src.length ≤ 65536) : scanT src = scan src 1 1 0 := by unfold scanT; rw [if_neg (by omega)]

set_option maxRecDepth 100000 in
set_option maxHeartbeats 2000000 in
theorem each1_in (src : Bs) (hmx : src.length ≤ maxLen) (n0 : Nat) (hn0 : 4 ≤ n0) (bs n : Nat) (W : World) (hbox : W.heap[bs]? = some (.cells #[.string ⟨src.toArray⟩] 9 (0, 0))) (g : Gr W) :
    Gives Fence.wide n Tryd.prog 17 #[.pointer (some ⟨bs, 0, none⟩)] (It (scanT src)) (tot (scanT src)) n0 W := by
  intro l J Jx hY h0
  have hsz : (⟨src.toArray⟩ : ByteArray).size = src.length := by simp [ByteArray.size]
  have hc : W.cell? ⟨bs, 0, none⟩ = some (.string ⟨src.toArray⟩) := by simp [World.cell?, hbox]
  by_cases hl : src.length ≤ 65536
  · rw [scanT_fits src hl] at hY ⊢
    have HW := walk_in src hl n0 hn0 l J Jx (n - 1) (fun m i vs W0 W1 h1 h2 h3 => yield_any m (hY i vs W0 W1 h1 h2 h3)) W g h0
    have d0 : decide ((src.length : Int) > 65536) = false := decide_eq_false (by omega)
    clear hY
    refine callsIn_of_wp Tryd.func17 rfl trivial ?_ rfl
    simp only [Tryd.ntmps17, List.size_toArray, List.length_cons, List.length_nil, Nat.reduceAdd, Nat.reduceSub, Array.replicate_succ, Array.replicate_zero, List.push_toArray, List.append_toArray, List.nil_append, List.cons_append]
    gi_wp2_with (refine ⟨trivial, (fun h => by cases h), ?_⟩; gi_at_call 19; (with_reducible refine HW.mono ?_); rintro e' w1 ⟨⟨v, rfl⟩, hfin⟩)
    go_end0
    exact ⟨⟨_, rfl⟩, hfin⟩
  · rw [scanT_long src hl] at hY ⊢
    have d0 : decide ((src.length : Int) > 65536) = true := decide_eq_true (by omega)
    have yErr : YieldAt Fence.wide (n - 1) Tryd.prog l #[.agg #[.int .i64 0, .string ⟨#[]⟩, .int .u64 0, .int .i64 0, .int .i64 0], .iface 63 (.pointer (some ⟨W.heap.size, 0, none⟩))] (W.alloc (posObj 30 1 1)) fun e W' => (e = .returned (.bool true) ∨ e = .returned (.bool false)) ∧ ((∃ W0, J (tot ([], some ⟨30, 1, 1⟩)) W0 ∧ Below W0.heap.size W0 W') ∨ ∃ i W0, i < tot ([], some ⟨30, 1, 1⟩) ∧ Jx (i + 1) W0 ∧ Below W0.heap.size W0 W') := by
      refine YieldAt.mono (hY 0 _ W _ h0 ((Below.refl _ W).alloc (Nat.le_refl _) _) (.inr ⟨rfl, _, W.heap.size, rfl, rfl, World.alloc_heap_new W _⟩)) ?_
      rintro e W' (⟨rfl, h1, _⟩ | ⟨rfl, h1⟩)
      · exact ⟨.inl rfl, .inl ⟨W', h1, Below.refl _ _⟩⟩
      · exact ⟨.inr rfl, .inr ⟨0, W', by decide, h1, Below.refl _ _⟩⟩
    clear hY
    obtain ⟨fn, tm, asg, bd, hy, hRd⟩ := yErr
    refine callsIn_of_wp Tryd.func17 rfl trivial ?_ rfl
    simp only [Tryd.ntmps17, List.size_toArray, List.length_cons, List.length_nil, Nat.reduceAdd, Nat.reduceSub, Array.replicate_succ, Array.replicate_zero, List.push_toArray, List.append_toArray, List.nil_append, List.cons_append]
    gi_wp2_with (refine ⟨trivial, (fun h => by cases h), ?_⟩; gi_at_call 18; (with_reducible refine (callsIn_wide.2 (fault_any _ _ _ _)).mono ?_); rintro e' w3 ⟨rfl, rfl⟩)
    refine ⟨(fun h => by cases h), ?_⟩
    refine hRd.mono ?_
    rintro e' W3 ⟨(rfl | rfl), hfin⟩
    · gi_wp2
      refine bodyPost_ret (results_none rfl _ _ _) rfl ?_
      exact ⟨⟨_, rfl⟩, hfin⟩
    · gi_wp2
      refine bodyPost_ret (results_none rfl _ _ _) rfl ?_
      exact ⟨⟨_, rfl⟩, hfin⟩

theorem each_any (src : Bs) (w : World) :
    Calls Tryd.prog 12 #[.string ⟨src.toArray⟩] w fun e w' => e = .returned (.func (.func 17) #[] #[.pointer (some ⟨w.heap.size, 0, none⟩)]) ∧ w' = w.alloc (.cells #[.string ⟨src.toArray⟩] 9) := by
  go_enter Tryd.func12, Tryd.ntmps12
  go_wp2
  go_ret
  exact ⟨rfl, rfl⟩
end Go.Proofs.YtckhliilndfljaaDoor
