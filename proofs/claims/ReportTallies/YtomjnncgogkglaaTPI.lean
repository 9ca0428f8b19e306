import Derived.Test.YtomjnncgogkglaaTPH0
import Derived.ArgAppend
import Derived.Deep.AppendLies
import Derived.Deep.Upon
namespace Go.Proofs.Ytomjnncgogkglaa
open Go.ChangeShapes Go.WideShapes Go.ChangeAt Go.RowKit
set_option linter.unusedVariables false
set_option linter.unusedSimpArgs false

theorem grown_refl (w : World) (r : Option Nat) : w.grownBy w r := ⟨rfl, rfl, rfl, Nat.le_refl _, fun _ _ _ => rfl⟩
theorem app_any {P : Program} (w : World) (base : Nat) (t ty e : TypeId) (i : TypeInfo) (z : Value) (size bytes : Nat) (ht : P.underlying t = some (.slice e)) (hi : P.info? e = some i) (hz : i.zero = some z)
    (hsize : i.size = size) (hby : i.bytes = bytes) (hzs : z.cells.size = size) (hsz : 0 < size) (v : Value) (n : Nat) (xs : List Value) (hown : w.ownsRow base e size v n xs)
    (p : Option Addr) (m c : Nat) (news : List Value) (hl : news.length = m * size) (hnews : m = 0 ∨ ∃ ad, p = some ad ∧ ∀ j u, news[j]? = some u → w.cell? (ad.add j) = some u) (h1 : ∀ u ∈ news, u.oneCell' = true)
    (h63 : n + m ≤ maxLen) (hbytes : (n + m) * bytes ≤ 140737488355328) (hbase : base ≤ w.heap.size) :
    ∃ v' w', (Builtin.append_ #[t, t] ty #[v, .slice p m c]).run P w = .ok v' w' ∧ w'.ownsRow base e size v' (n + m) (xs ++ news) ∧ w.grownBy w' v.ownBlock ∧ (v'.ownBlock = v.ownBlock ∨ v'.ownBlock = some w.heap.size) := by
  by_cases h0 : m = 0
  · subst h0
    obtain rfl : news = [] := List.length_eq_zero_iff.1 (by simpa using hl)
    obtain ⟨vp, vc, rfl⟩ := own_slice (own_of hown)
    have hle : n ≤ vc := by
      rcases hown.2 with ⟨h2, h3⟩ | ⟨g, cap, cur, h2, _, _, h3, _⟩
      · omega
      · injection h2 with e1 e2 e3
        omega
    refine ⟨.slice vp n vc, w, ?_, by simpa using hown, grown_refl _ _, .inl rfl⟩
    refine run_append_nothing w t t ty e i ht hi vp n vc hle (.slice p 0 c) ?_
    cases p with
    | none => exact Src.ofNil w ht c
    | some a => exact Src.ofSlice w ht a 0 c [] (by simp) (fun j u h => by simp at h) (fun u h => by cases h)
  · rcases hnews with h | ⟨ad, rfl, hc⟩
    · exact absurd h h0
    obtain ⟨v', w', hr, h2, h3, h4, h5⟩ := run_append_own_at (P := P) w base t ty e i z size bytes ht hi hz hsize hby hzs hsz v n xs hown ad m c news hl hc h1 h63 hbytes hbase
    exact ⟨v', w', hr, h2, h3, h5⟩
theorem wpList_app {P : Program} {w : World} {ops : Array Oper} {rest : List Oper} {o : Oper} {a : Act} {Q : Exit → Act → World → Prop} (hgd : o.guard = none) (s x : Operand) (t : TypeId)
    (ho : o.op = .call { callee := .builtin .append, args := #[s, x], argTypes := #[t, t] }) (base : Nat) (e : TypeId) (i : TypeInfo) (z : Value) (size bytes : Nat) (ht : P.underlying t = some (.slice e)) (hi : P.info? e = some i) (hz : i.zero = some z)
    (hsize : i.size = size) (hby : i.bytes = bytes) (hzs : z.cells.size = size) (hsz : 0 < size) (v : Value) (n : Nat) (xs : List Value) (hs : a.eval s = v) (hown : w.ownsRow base e size v n xs)
    (p : Option Addr) (m c : Nat) (news : List Value) (hx : a.eval x = .slice p m c) (hl : news.length = m * size) (hnews : m = 0 ∨ ∃ ad, p = some ad ∧ ∀ j u, news[j]? = some u → w.cell? (ad.add j) = some u) (h1 : ∀ u ∈ news, u.oneCell' = true)
    (h63 : n + m ≤ maxLen) (hbytes : (n + m) * bytes ≤ 140737488355328) (hbase : base ≤ w.heap.size)
    (h : ∀ v' w', w'.ownsRow base e size v' (n + m) (xs ++ news) → w.grownBy w' v.ownBlock → (v'.ownBlock = v.ownBlock ∨ v'.ownBlock = some w.heap.size) → wpList P ops Q rest (a.put o.dst v') w') :
    wpList P ops Q (o :: rest) a w := by
  obtain ⟨v', w', hr, h2, h3, h5⟩ := app_any w base t o.type e i z size bytes ht hi hz hsize hby hzs hsz v n xs hown p m c news hl hnews h1 h63 hbytes hbase
  refine wpList_plain hgd fun K hK => ?_
  unfold Oper.wp
  simp [execOp, ho, resolve, invoke, builtin, hs, hx, hr, Result.andThen]
  exact hK _ _ (h _ _ h2 h3 h5)
/-! ### a key more in a rising list -/
def Ris (L : List (Int × Int)) : Prop := L.Pairwise (fun x y => x.1 < y.1)
theorem ins_new {κ : Nat → Int} {n : Nat} {A B : List (Int × Int)} {f : Int} (hf : κ n = f) (h : HM κ n (A ++ B)) (hr : Ris (A ++ B)) (hA : ∀ x ∈ A, x.1 < f) (hB : ∀ x ∈ B, f < x.1) : HM κ (n + 1) (A ++ (f, 1) :: B) ∧ Ris (A ++ (f, 1) :: B) := by
  obtain ⟨r1, r2, r3⟩ := List.pairwise_append.1 hr
  have hris : Ris (A ++ (f, 1) :: B) := by
    refine List.pairwise_append.2 ⟨r1, List.pairwise_cons.2 ⟨fun x hx => hB x hx, r2⟩, fun a ha b hb => ?_⟩
    rcases List.mem_cons.1 hb with rfl | hb
    · exact hA a ha
    · exact r3 a ha b hb
  have hno : ∀ c, (f, c) ∉ A ++ B := fun c hm => by
    rcases List.mem_append.1 hm with hm | hm
    · exact absurd (hA _ hm) (Int.lt_irrefl _)
    · exact absurd (hB _ hm) (Int.lt_irrefl _)
  have h0 : kc κ f n = 0 := by
    rcases Nat.eq_zero_or_pos (kc κ f n) with h0 | h0
    · exact h0
    · exact absurd ((h.mem f _).2 ⟨h0, rfl⟩) (hno _)
  refine ⟨⟨hris.imp fun h => by omega, fun k c => ?_⟩, hris⟩
  by_cases e : k = f
  · subst e
    rw [kc_yes hf, h0]
    constructor
    · intro hm
      have : (k, c) ∈ A ++ B ∨ c = 1 := by
        simp only [List.mem_append, List.mem_cons, Prod.mk.injEq, true_and] at hm ⊢
        rcases hm with h1 | h1 | h1
        · exact .inl (.inl h1)
        · exact .inr h1
        · exact .inl (.inr h1)
      rcases this with hm | rfl
      · exact absurd hm (hno _)
      · simp
    · rintro ⟨_, rfl⟩
      simp
  · rw [kc_no (fun e9 => e (by rw [← e9, hf])), ← h.mem]
    simp only [List.mem_append, List.mem_cons, Prod.mk.injEq]
    constructor
    · rintro (h1 | ⟨h1, _⟩ | h1)
      · exact .inl h1
      · exact absurd h1 e
      · exact .inr h1
    · rintro (h1 | h1)
      · exact .inl h1
      · exact .inr (.inr h1)
theorem ins_old {κ : Nat → Int} {n : Nat} {A B : List (Int × Int)} {f c : Int} (hf : κ n = f) (h : HM κ n (A ++ (f, c) :: B)) (hr : Ris (A ++ (f, c) :: B)) : HM κ (n + 1) (A ++ (f, c + 1) :: B) ∧ Ris (A ++ (f, c + 1) :: B) ∧ c = kc κ f n := by
  obtain ⟨r1, r2, r3⟩ := List.pairwise_append.1 hr
  obtain ⟨q1, q2⟩ := List.pairwise_cons.1 r2
  have hris : Ris (A ++ (f, c + 1) :: B) := by
    refine List.pairwise_append.2 ⟨r1, List.pairwise_cons.2 ⟨fun x hx => q1 x hx, q2⟩, fun a ha b hb => ?_⟩
    rcases List.mem_cons.1 hb with rfl | hb
    · exact r3 a ha (f, c) (by simp)
    · exact r3 a ha b (by simp [hb])
  have hc := (h.mem f c).1 (by simp)
  have hno : ∀ d, (f, d) ∉ A ∧ (f, d) ∉ B := fun d => ⟨fun hm => absurd (r3 _ hm (f, c) (by simp)) (Int.lt_irrefl _), fun hm => absurd (q1 _ hm) (Int.lt_irrefl _)⟩
  refine ⟨⟨hris.imp fun h => by omega, fun k d => ?_⟩, hris, hc.2⟩
  by_cases e : k = f
  · subst e
    rw [kc_yes hf]
    constructor
    · intro hm
      simp only [List.mem_append, List.mem_cons, Prod.mk.injEq, true_and] at hm
      rcases hm with hm | hm | hm
      · exact absurd hm (hno d).1
      · exact ⟨by omega, by omega⟩
      · exact absurd hm (hno d).2
    · rintro ⟨_, h2⟩
      have : d = c + 1 := by omega
      subst this
      simp
  · rw [kc_no (fun e9 => e (by rw [← e9, hf])), ← h.mem]
    simp only [List.mem_append, List.mem_cons, Prod.mk.injEq, e, false_and, false_or]
end Go.Proofs.Ytomjnncgogkglaa
