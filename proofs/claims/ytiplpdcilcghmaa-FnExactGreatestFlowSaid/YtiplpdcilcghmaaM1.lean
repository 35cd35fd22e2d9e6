/- Plain facts on nets and flows, chapter 1. -/
import Derived.Test.YtiplpdcilcghmaaB
namespace Go.Proofs.Ytiplpdcilcghmaa
open Go.RowKit

def withinB (n l m : Int) : Bool := decide (l ≤ n) && decide (n ≤ m)

def pipeOkB (n a b c d e : Int) : Bool := withinB a 0 (n - 1) && withinB b 0 (n - 1) && decide (a ≠ b) && decide (0 ≤ c) && decide (c ≤ d) && decide (d ≤ 4) && withinB e (-9) 9

def netOkB (n : Int) (ps : List Pp) : Bool := withinB n 2 5 && decide (ps.length ≤ 7) && ps.all fun p => pipeOkB n p.fr p.to p.le p.mo p.co

theorem all_take {α : Type} {f : α → Bool} {xs : List α} {k : Nat} (hk : k < xs.length) (h : ∀ p ∈ xs.take k, f p = true)
    (h1 : f xs[k] = true) : ∀ p ∈ xs.take (k + 1), f p = true := by
  intro p hp
  rw [List.take_succ_eq_append_getElem hk] at hp
  rcases List.mem_append.1 hp with hp | hp
  · exact h p hp
  · simp at hp; rw [hp]; exact h1

theorem all_whole {α : Type} {f : α → Bool} {xs : List α} {k : Nat} (hk : ¬ k < xs.length) (h : ∀ p ∈ xs.take k, f p = true) : xs.all f = true := by
  rw [List.take_of_length_le (by omega)] at h
  simpa using h

theorem all_no {α : Type} {f : α → Bool} {xs : List α} {k : Nat} (hk : k < xs.length) (h : (!f xs[k]) = true) : xs.all f = false := by
  rw [Bool.eq_false_iff]
  intro ha
  rw [List.all_eq_true] at ha
  have := ha _ (List.getElem_mem hk)
  rw [this] at h
  simp at h

def flowOkB (n : Int) (ps : List Pp) (xs : List Int) : Bool := netOkB n ps && decide (xs.length = ps.length) && xs.all fun x => withinB x 0 40

theorem netOk_parts {n : Int} {ps : List Pp} (h : netOkB n ps = true) : 2 ≤ n ∧ n ≤ 5 ∧ ps.length ≤ 7 ∧ ∀ p ∈ ps, pipeOkB n p.fr p.to p.le p.mo p.co = true := by
  simp only [netOkB, withinB, Bool.and_eq_true, decide_eq_true_eq, List.all_eq_true] at h
  exact ⟨h.1.1.1, h.1.1.2, h.1.2, h.2⟩

theorem flowOk_parts {n : Int} {ps : List Pp} {xs : List Int} (h : flowOkB n ps xs = true) : netOkB n ps = true ∧ xs.length = ps.length ∧ ∀ x ∈ xs, 0 ≤ x ∧ x ≤ 40 := by
  simp only [flowOkB, withinB, Bool.and_eq_true, decide_eq_true_eq, List.all_eq_true] at h
  exact ⟨h.1.1, h.1.2, h.2⟩

theorem pipeOk_parts {n a b c d e : Int} (h : pipeOkB n a b c d e = true) : 0 ≤ a ∧ a < n ∧ 0 ≤ b ∧ b < n ∧ a ≠ b ∧ 0 ≤ c ∧ c ≤ d ∧ d ≤ 4 ∧ -9 ≤ e ∧ e ≤ 9 := by
  simp only [pipeOkB, withinB, Bool.and_eq_true, decide_eq_true_eq] at h
  omega

/-- what an amount in a pipe adds to the excess of a node -/
def excT (node : Int) (p : Pp) (x : Int) : Int := if node = p.to then x else if node = p.fr then -x else 0

def exc (node : Int) (ps : List Pp) (xs : List Int) : Int := ((ps.zip xs).map fun q => excT node q.1 q.2).sum

theorem excT_bd {node : Int} {p : Pp} {x : Int} (h0 : 0 ≤ x) (h1 : x ≤ 40) : -40 ≤ excT node p x ∧ excT node p x ≤ 40 := by
  unfold excT; repeat' split
  all_goals omega

theorem take_zip {α β : Type} (ls : List α) (bs : List β) (k : Nat) : (ls.take k).zip (bs.take k) = (ls.zip bs).take k := by
  induction ls generalizing bs k with
  | nil => simp
  | cons a ls ih => cases bs <;> cases k <;> simp_all

theorem exc_snoc (node : Int) (ps : List Pp) (xs : List Int) (k : Nat) (hp : k < ps.length) (hx : k < xs.length) :
    exc node (ps.take (k + 1)) (xs.take (k + 1)) = exc node (ps.take k) (xs.take k) + excT node ps[k] xs[k] := by
  unfold exc
  rw [List.take_succ_eq_append_getElem hp, List.take_succ_eq_append_getElem hx, List.zip_append (by simp; omega)]
  simp

theorem exc_bd (node : Int) (ps : List Pp) (xs : List Int) (h : ∀ x ∈ xs, 0 ≤ x ∧ x ≤ 40) : -(40 * (ps.length : Int)) ≤ exc node ps xs ∧ exc node ps xs ≤ 40 * (ps.length : Int) := by
  induction ps generalizing xs with
  | nil => simp [exc]
  | cons p ps ih =>
    cases xs with
    | nil => simp [exc]; omega
    | cons x xs =>
      have h1 := ih xs (fun y hy => h y (by simp [hy]))
      have h2 := excT_bd (node := node) (p := p) (h x (by simp)).1 (h x (by simp)).2
      have e : exc node (p :: ps) (x :: xs) = excT node p x + exc node ps xs := by simp [exc]
      rw [e]
      simp only [List.length_cons]
      omega

def balB (n : Int) (ps : List Pp) (xs : List Int) : Bool := flowOkB n ps xs && (List.range n.toNat).all fun k => exc (k : Int) ps xs == 0

def holdsB (n : Int) (ps : List Pp) (xs : List Int) : Bool := flowOkB n ps xs && (ps.zip xs).all fun q => withinB q.2 q.1.le q.1.mo

theorem flow_n {n : Int} {ps : List Pp} {xs : List Int} (h : flowOkB n ps xs = true) : -9223372036854775808 < n ∧ n < 9223372036854775808 := by
  obtain ⟨h1, h2, _⟩ := netOk_parts (flowOk_parts h).1
  omega

def addAll (xs ys : List Int) : List Int := (xs.zip ys).map fun q => q.1 + q.2

theorem addAll_len {xs ys : List Int} (h : xs.length = ys.length) : (addAll xs ys).length = xs.length := by simp [addAll]; omega

theorem addAll_at {xs ys : List Int} {k : Nat} (h : k < xs.length) (h' : k < ys.length) : (addAll xs ys)[k]? = some (xs[k] + ys[k]) := by
  rw [List.getElem?_eq_getElem (by simp [addAll]; omega)]
  simp [addAll]

theorem set_take {α : Type} {zs ss : List α} {k : Nat} {v : α} (hk : k < zs.length) (h : zs.take k = ss.take k) (hv : ss[k]? = some v) : (zs.set k v).take (k + 1) = ss.take (k + 1) := by
  have hs : k < ss.length := (List.getElem?_eq_some_iff.1 hv).1
  have hse : ss[k] = v := (List.getElem?_eq_some_iff.1 hv).2
  rw [List.take_succ_eq_append_getElem (by simpa using hk), List.take_succ_eq_append_getElem hs, List.take_set_of_le (Nat.le_refl _), h]
  simp [hse]

def bothB (n : Int) (ps : List Pp) (xs ys : List Int) : Bool := flowOkB n ps xs && flowOkB n ps ys && flowOkB n ps (addAll xs ys)

def bothR (n : Int) (ps : List Pp) (xs ys : List Int) : List Int := if bothB n ps xs ys = true then addAll xs ys else []

theorem Ints_nil (w : World) (b : Nat) : Ints w b (.slice none 0 0) [] := ⟨World.ownsRow_nil w b _ 1, Nat.zero_le _⟩

end Go.Proofs.Ytiplpdcilcghmaa
