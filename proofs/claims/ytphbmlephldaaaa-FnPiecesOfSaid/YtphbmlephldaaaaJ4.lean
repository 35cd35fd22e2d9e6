/- Plain facts, chapter 7: a walk in the tree that goes back where all has been tried. -/
import Derived.Test.YtphbmlephldaaaaJ2
namespace Go.Proofs.Ytphbmlephldaaaa
open Go.RowKit

theorem nodup_len7 (m : Nat) : ∀ l : List Int, l.Nodup → (∀ x ∈ l, 0 ≤ x ∧ x < (m : Int)) → l.length ≤ m := by
  induction m with
  | zero =>
    intro l _ h
    cases l with
    | nil => simp
    | cons x l => have := h x (by simp); omega
  | succ m ih =>
    intro l hn h
    have h1 := ih (l.erase (m : Int)) (hn.erase _) fun x hx => by
      have h2 := h x (List.mem_of_mem_erase hx)
      have h3 : x ≠ (m : Int) := fun e => by
        subst e
        exact absurd hx (hn.not_mem_erase)
      omega
    have h2 := List.length_erase (a := (m : Int)) (l := l)
    split at h2 <;> omega

/-- the steps along pipes of the tree -/
def tstepF (n : Nat) (ps : List Pp) (s : Nat) : Bool := treeF n ps (s / 2)

theorem chain_snoc7 {ps : List Pp} {a v : Int} {l : List Nat} {s : Nat} (h : chain ps a v l) (hs : s < 2 * ps.length) (hf : stFr ps s = v) : chain ps a (stTo ps s) (l ++ [s]) := by
  induction l generalizing a with
  | nil =>
    have : a = v := h
    subst this
    exact ⟨hs, hf, rfl⟩
  | cons t l ih => exact ⟨h.1, h.2.1, ih h.2.2⟩
theorem chain_last7 {ps : List Pp} {a v : Int} {l : List Nat} {s : Nat} (h : chain ps a v (l ++ [s])) : chain ps a (stFr ps s) l ∧ stTo ps s = v := by
  induction l generalizing a with
  | nil =>
    obtain ⟨-, h2, h3⟩ := h
    exact ⟨h2.symm, h3⟩
  | cons t l ih =>
    obtain ⟨h1, h2, h3⟩ := h
    obtain ⟨i1, i2⟩ := ih h3
    exact ⟨⟨h1, h2, i1⟩, i2⟩

/-- the walk so far, and the nodes that have been tried -/
def walkT (n : Nat) (ps : List Pp) (a c v : Int) (walk : List Nat) (tried : List Int) : Prop :=
  chain ps a v walk ∧ (∀ s ∈ walk, s < 2 * ps.length ∧ tstepF n ps s = true ∧ stFr ps s ∈ tried) ∧ tried.Nodup ∧ (∀ x ∈ tried, 0 ≤ x ∧ x < (n : Int)) ∧ a ∈ tried ∧ v ∈ tried ∧ (c ∈ tried → v = c) ∧ walk.length + 1 ≤ tried.length ∧
  (∀ x ∈ tried, x ≠ v → (∀ s ∈ walk, stFr ps s ≠ x) → ∀ t, t < 2 * ps.length → tstepF n ps t = true → stFr ps t = x → stTo ps t ∈ tried)

section
variable {n : Nat} {ps : List Pp} {a c v : Int} {walk : List Nat} {tried : List Int} {s : Nat}
theorem walkT_start (a0 : 0 ≤ a) (a1 : a < n) : walkT n ps a c a [] [a] :=
  ⟨rfl, by simp, by simp, fun x hx => by simp at hx; omega, by simp, by simp, fun h => by simp at h; exact h.symm, by simp, fun x hx hne => by simp at hx; exact absurd hx hne⟩
theorem walkT_len (h : walkT n ps a c v walk tried) : tried.length ≤ n ∧ walk.length + 1 ≤ tried.length :=
  ⟨nodup_len7 n tried h.2.2.1 h.2.2.2.1, h.2.2.2.2.2.2.2.1⟩
theorem walkT_push (h : walkT n ps a c v walk tried) (hs : s < 2 * ps.length) (ht : tstepF n ps s = true) (hf : stFr ps s = v) (hto : stTo ps s ∉ tried) (hin : 0 ≤ stTo ps s ∧ stTo ps s < n) (hvc : v ≠ c) :
    walkT n ps a c (stTo ps s) (walk ++ [s]) (tried ++ [stTo ps s]) := by
  obtain ⟨h1, h2, h3, h4, h5, h6, h7, h8, h9⟩ := h
  refine ⟨chain_snoc7 h1 hs hf, ?_, ?_, ?_, by simp [h5], by simp, ?_, by simp; omega, ?_⟩
  · intro t htm
    rcases List.mem_append.1 htm with h | h
    · exact ⟨(h2 t h).1, (h2 t h).2.1, by simp [(h2 t h).2.2]⟩
    · simp at h
      subst h
      exact ⟨hs, ht, by rw [hf]; simp [h6]⟩
  · rw [List.nodup_append]
    refine ⟨h3, by simp, ?_⟩
    intro x hx y hy
    simp at hy
    subst hy
    intro e
    subst e
    exact hto hx
  · intro x hx
    rcases List.mem_append.1 hx with h | h
    · exact h4 x h
    · simp at h; subst h; exact hin
  · intro hc
    rcases List.mem_append.1 hc with h | h
    · exact absurd (h7 h) hvc
    · simp at h; exact h.symm
  · intro x hx hne hw t ht1 ht2 ht3
    rcases List.mem_append.1 hx with h | h
    · have hxv : x ≠ v := fun e => hw s (by simp) (by rw [hf, e])
      have := h9 x h hxv (fun s' hs' => hw s' (by simp [hs'])) t ht1 ht2 ht3
      simp [this]
    · simp at h; exact absurd h hne
theorem walkT_pop (h : walkT n ps a c v (walk ++ [s]) tried) (hno : ∀ t, t < 2 * ps.length → tstepF n ps t = true → stFr ps t = v → stTo ps t ∈ tried) (hvc : v ≠ c) : walkT n ps a c (stFr ps s) walk tried := by
  obtain ⟨h1, h2, h3, h4, h5, h6, h7, h8, h9⟩ := h
  obtain ⟨c1, c2⟩ := chain_last7 h1
  refine ⟨c1, fun t ht => h2 t (by simp [ht]), h3, h4, h5, (h2 s (by simp)).2.2, fun hc => absurd (h7 hc) hvc, by simp at h8; omega, ?_⟩
  intro x hx hne hw t ht1 ht2 ht3
  by_cases hxv : x = v
  · exact hno t ht1 ht2 (by rw [ht3, hxv])
  · refine h9 x hx hxv (fun s' hs' => ?_) t ht1 ht2 ht3
    rcases List.mem_append.1 hs' with h | h
    · exact hw s' h
    · simp at h; subst h; exact fun e => hne e.symm
/-- within a piece the walk never comes to its begin again with nothing left to try -/
theorem walkT_stuck (hE : ∀ p ∈ ps, endsIn n p) (h : walkT n ps a c v [] tried) (hno : ∀ t, t < 2 * ps.length → tstepF n ps t = true → stFr ps t = v → stTo ps t ∈ tried) (hvc : v ≠ c)
    (c0 : 0 ≤ c) (c1 : c < n) (hj : lab (growL n ps ps.length) a = lab (growL n ps ps.length) c) : False := by
  obtain ⟨-, -, h3, h4, h5, h6, h7, h8, h9⟩ := h
  have hcl : ∀ t, t < 2 * ps.length → tstepF n ps t = true → stFr ps t ∈ tried → stTo ps t ∈ tried := fun t ht1 ht2 hin => by
    by_cases hxv : stFr ps t = v
    · exact hno t ht1 ht2 hxv
    · exact h9 _ hin hxv (by simp) t ht1 ht2 rfl
  have hS := piece_same (k := ps.length) (fun x : Int => x ∈ tried) hE (Nat.le_refl _) fun j hj ht => by
    have g0 : ps.getD j zeroPp = ps[j] := by simp [List.getD_eq_getElem?_getD, hj]
    have e1 := hcl (2 * j) (by omega) (by unfold tstepF; rw [show 2 * j / 2 = j by omega]; exact ht)
    have e2 := hcl (2 * j + 1) (by omega) (by unfold tstepF; rw [show (2 * j + 1) / 2 = j by omega]; exact ht)
    have f1 : stFr ps (2 * j) = ps[j].fr ∧ stTo ps (2 * j) = ps[j].to := by simp [stFr, stTo, show 2 * j % 2 = 0 by omega, show 2 * j / 2 = j by omega, hj]
    have f2 : stFr ps (2 * j + 1) = ps[j].to ∧ stTo ps (2 * j + 1) = ps[j].fr := by simp [stFr, stTo, show (2 * j + 1) % 2 = 1 by omega, show (2 * j + 1) / 2 = j by omega, hj]
    rw [f1.1, f1.2] at e1
    rw [f2.1, f2.2] at e2
    rw [g0]
    exact propext ⟨e1, e2⟩
  obtain ⟨a0, a1⟩ := h4 a h5
  have s1 := hS a a0 a1
  have s2 := hS c c0 c1
  rw [hj] at s1
  rw [s1] at s2
  exact hvc (h7 (s2.mp h5))
end

theorem tree_few {n : Nat} {ps : List Pp} (hE : ∀ p ∈ ps, endsIn n p) : (treeL n ps).length ≤ n := by
  have h := roots_len (k := ps.length) hE (Nat.le_refl _)
  have h0 : 0 ≤ rootsN n (growL n ps ps.length) := by rw [← rootF_len]; omega
  unfold treeL
  omega
theorem tree_in {n : Nat} {ps : List Pp} {k : Nat} (hk : k < ps.length) : decide ((k : Int) ∈ treeL n ps) = treeF n ps k := by
  cases ht : treeF n ps k with
  | true => exact decide_eq_true (numW_mem.2 ⟨k, hk, ht, rfl⟩)
  | false =>
    refine decide_eq_false fun h => ?_
    obtain ⟨i, -, hi, he⟩ := tree_mem h
    have : k = i := by omega
    subst this
    rw [ht] at hi; cases hi

/-- pushes of 1 along steps stay within their number -/
theorem push1_bd {xs : List Int} {s j : Nat} {m : Int} (h : ∀ j, -m ≤ xs.getD j 0 ∧ xs.getD j 0 ≤ m) : -(m + 1) ≤ (push1 1 xs s).getD j 0 ∧ (push1 1 xs s).getD j 0 ≤ m + 1 := by
  have hj := h j
  have hs := h (s / 2)
  by_cases hl : s / 2 < xs.length
  · unfold push1
    split <;> rw [getD_set _ _ _ _ _ hl] <;> split <;> omega
  · have e : (push1 1 xs s) = xs := by
      unfold push1
      split <;> rw [List.set_eq_of_length_le (by omega)]
    rw [e]; omega
theorem pushL_bd7 {l : List Nat} {xs : List Int} {m : Int} (h : ∀ j, -m ≤ xs.getD j 0 ∧ xs.getD j 0 ≤ m) : ∀ j, -(m + (l.length : Int)) ≤ (pushL 1 xs l).getD j 0 ∧ (pushL 1 xs l).getD j 0 ≤ m + (l.length : Int) := by
  induction l generalizing xs m with
  | nil => intro j; have := h j; simpa [pushL] using this
  | cons s l ih =>
    intro j
    have := ih (xs := push1 1 xs s) (m := m + 1) (fun j => push1_bd h) j
    rw [show pushL 1 xs (s :: l) = pushL 1 (push1 1 xs s) l from rfl, List.length_cons]
    push_cast
    omega

end Go.Proofs.Ytphbmlephldaaaa
