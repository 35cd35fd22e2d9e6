/- Plain facts. -/
import Derived.Test.YtmgpekdhcghabaaGreatMG
/- Plain facts of chapter 4: rings and threads, the plain answers. -/
namespace Go.Proofs.YtmgpekdhcghabaaGreat
open Go.RowKit

def frI (ps : List Pp) (x : Int) : Int := (ps.getD x.toNat zeroPp).fr
def toI (ps : List Pp) (x : Int) : Int := (ps.getD x.toNat zeroPp).to
def placesB (ps : List Pp) (xs : List Int) : Bool := xs.all fun x => withinB x 0 ((ps.length : Int) - 1)
def linkB (ps : List Pp) (xs : List Int) : Bool := (List.range (xs.length - 1)).all fun j => decide (frI ps (xs.getD (j + 1) 0) = toI ps (xs.getD j 0))
def walkB (n : Int) (ps : List Pp) (xs : List Int) : Bool := netOkB n ps && withinB xs.length 1 5 && placesB ps xs && linkB ps xs
def nodesI (ps : List Pp) (xs : List Int) : List Int := frI ps (xs.getD 0 0) :: xs.map (toI ps)
def ringB (n : Int) (ps : List Pp) (xs : List Int) : Bool := walkB n ps xs && decide ((nodesI ps xs).getD xs.length 0 = frI ps (xs.getD 0 0)) && decide ((nodesI ps xs).take xs.length).Nodup
def threadB (n : Int) (ps : List Pp) (xs : List Int) (a b : Int) : Bool := endsB n ps a b && walkB n ps xs && decide (frI ps (xs.getD 0 0) = a) && decide ((nodesI ps xs).getD xs.length 0 = b) && decide (nodesI ps xs).Nodup

section
variable {n a b : Int} {ps : List Pp} {xs : List Int}

theorem frI_at {k : Nat} (h : k < ps.length) : frI ps (k : Int) = ps[k].fr := by simp [frI, List.getD_eq_getElem?_getD, h]
theorem toI_at {k : Nat} (h : k < ps.length) : toI ps (k : Int) = ps[k].to := by simp [toI, List.getD_eq_getElem?_getD, h]
theorem getD_at {j : Nat} (h : j < xs.length) : xs.getD j 0 = xs[j] := by simp [List.getD_eq_getElem?_getD, h]

theorem place_at (h : placesB ps xs = true) {j : Nat} (hj : j < xs.length) : ∃ k : Nat, xs[j] = (k : Int) ∧ k < ps.length := by
  have := List.all_eq_true.1 h _ (List.getElem_mem hj)
  simp only [withinB, Bool.and_eq_true, decide_eq_true_eq] at this
  exact ⟨xs[j].toNat, by omega, by omega⟩

theorem link_iff : linkB ps xs = true ↔ ∀ j, j + 1 < xs.length → frI ps (xs.getD (j + 1) 0) = toI ps (xs.getD j 0) := by
  simp only [linkB, List.all_eq_true, List.mem_range, decide_eq_true_eq]
  constructor
  · intro h j hj; exact h j (by omega)
  · intro h j hj; exact h j (by omega)

theorem nodes_len : (nodesI ps xs).length = xs.length + 1 := by simp [nodesI]
theorem nodes_zero : (nodesI ps xs).getD 0 0 = frI ps (xs.getD 0 0) := rfl
theorem nodes_succ {j : Nat} (hj : j < xs.length) : (nodesI ps xs).getD (j + 1) 0 = toI ps (xs.getD j 0) := by
  rw [nodesI, List.getD_cons_succ, List.getD_eq_getElem?_getD, List.getElem?_map, getD_at hj, List.getElem?_eq_getElem hj]
  rfl
theorem nodes_take (h : linkB ps xs = true) : (nodesI ps xs).take xs.length = xs.map (frI ps) := by
  apply List.ext_getElem (by simp [nodes_len])
  intro j h1 h2
  have hj : j < xs.length := by simpa using h2
  rw [List.getElem_take, List.getElem_map]
  have e : (nodesI ps xs).getD j 0 = (nodesI ps xs)[j]'(by rw [nodes_len]; omega) := by simp [List.getD_eq_getElem?_getD, nodes_len, show j < xs.length + 1 by omega]
  rw [← e]
  rcases j with _ | j
  · rw [nodes_zero, getD_at hj]
  · rw [nodes_succ (by omega), ← link_iff.1 h j hj, getD_at hj]

theorem walk_parts (h : walkB n ps xs = true) : netOkB n ps = true ∧ 1 ≤ xs.length ∧ xs.length ≤ 5 ∧ placesB ps xs = true ∧ linkB ps xs = true := by
  simp only [walkB, withinB, Bool.and_eq_true, decide_eq_true_eq] at h
  exact ⟨h.1.1.1, by omega, by omega, h.1.2, h.2⟩

/-- the closing of a ring, pipe by pipe -/
def closeB (ps : List Pp) (xs : List Int) : Bool := (List.range xs.length).all fun k => decide (toI ps (xs.getD k 0) = frI ps (xs.getD ((k + 1) % xs.length) 0))
theorem close_iff : closeB ps xs = true ↔ ∀ k, k < xs.length → toI ps (xs.getD k 0) = frI ps (xs.getD ((k + 1) % xs.length) 0) := by
  simp only [closeB, List.all_eq_true, List.mem_range, decide_eq_true_eq]

theorem close_link (h1 : 1 ≤ xs.length) : closeB ps xs = true ↔ (linkB ps xs = true ∧ (nodesI ps xs).getD xs.length 0 = frI ps (xs.getD 0 0)) := by
  have hl : (nodesI ps xs).getD xs.length 0 = toI ps (xs.getD (xs.length - 1) 0) := by
    have := nodes_succ (ps := ps) (xs := xs) (j := xs.length - 1) (by omega)
    rw [show xs.length - 1 + 1 = xs.length by omega] at this
    exact this
  rw [hl, close_iff, link_iff]
  constructor
  · intro h
    refine ⟨fun j hj => ?_, ?_⟩
    · rw [h j (by omega), Nat.mod_eq_of_lt hj]
    · have := h (xs.length - 1) (by omega)
      rw [show xs.length - 1 + 1 = xs.length by omega, Nat.mod_self] at this
      exact this
  · rintro ⟨h, hc⟩ k hk
    by_cases hk2 : k + 1 < xs.length
    · rw [Nat.mod_eq_of_lt hk2]; exact (h k hk2).symm
    · obtain rfl : k = xs.length - 1 := by omega
      rw [show xs.length - 1 + 1 = xs.length by omega, Nat.mod_self]
      exact hc

/-- the same answer, as the model looks at it -/
theorem ring_alt (hn : netOkB n ps = true) (h1 : 1 ≤ xs.length) (h5 : xs.length ≤ 5) (hp : placesB ps xs = true) : ringB n ps xs = (decide (xs.map (frI ps)).Nodup && closeB ps xs) := by
  have hw : walkB n ps xs = linkB ps xs := by simp [walkB, hn, withinB, hp]; omega
  rw [ringB, hw, Bool.eq_iff_iff]
  simp only [Bool.and_eq_true, decide_eq_true_eq]
  rw [close_link h1]
  constructor
  · rintro ⟨⟨h2, h3⟩, h4⟩
    rw [nodes_take h2] at h4
    exact ⟨h4, h2, h3⟩
  · rintro ⟨h4, h2, h3⟩
    rw [nodes_take h2]
    exact ⟨⟨h2, h3⟩, h4⟩

theorem walk_no1 (h : netOkB n ps = false) : walkB n ps xs = false := by simp [walkB, h]
theorem walk_no2 (h : withinB xs.length 1 5 = false) : walkB n ps xs = false := by simp [walkB, h]
theorem walk_no3 (h : placesB ps xs = false) : walkB n ps xs = false := by simp [walkB, h]
theorem place_no {j : Nat} (hj : j < xs.length) (h : withinB xs[j] 0 ((ps.length : Int) - 1) = false) : placesB ps xs = false := by
  rw [placesB, List.all_eq_false]
  exact ⟨_, List.getElem_mem hj, by simp [h]⟩
end

theorem seen_or' : ∀ (s : Fin 32) (v u : Fin 5), 0 ≤ bits .or .i64 (s.val : Int) (2 ^ v.val) ∧ bits .or .i64 (s.val : Int) (2 ^ v.val) ≤ 31 ∧ bitB (bits .or .i64 (s.val : Int) (2 ^ v.val)) (u.val : Int) = (bitB (s.val : Int) (u.val : Int) || decide (u.val = v.val)) := by decide +kernel

/-- these nodes are seen, and no other ones -/
def seenOk (s : Int) (l : List Int) : Prop := 0 ≤ s ∧ s ≤ 31 ∧ ∀ u : Nat, u < 5 → bitB s (u : Int) = decide ((u : Int) ∈ l)
theorem seen_one : ∀ v : Nat, v < 5 → seenOk (2 ^ v) [(v : Int)] := by
  intro v hv
  have key : ∀ v u : Fin 5, 0 ≤ (2 : Int) ^ v.val ∧ (2 : Int) ^ v.val ≤ 31 ∧ bitB (2 ^ v.val) (u.val : Int) = decide (u.val = v.val) := by decide +kernel
  refine ⟨(key ⟨v, hv⟩ ⟨0, by omega⟩).1, (key ⟨v, hv⟩ ⟨0, by omega⟩).2.1, fun u hu => ?_⟩
  rw [(key ⟨v, hv⟩ ⟨u, hu⟩).2.2, Bool.eq_iff_iff]
  simp
  omega
theorem seen_snoc {s : Int} {l : List Int} {v : Nat} (h : seenOk s l) (hv : v < 5) : seenOk (bits .or .i64 s (2 ^ v)) (l ++ [(v : Int)]) := by
  obtain ⟨h0, h1, h2⟩ := h
  obtain ⟨S, rfl⟩ : ∃ S : Nat, s = (S : Int) := ⟨s.toNat, by omega⟩
  have key := fun u : Fin 5 => seen_or' ⟨S, by omega⟩ ⟨v, hv⟩ u
  refine ⟨(key ⟨0, by omega⟩).1, (key ⟨0, by omega⟩).2.1, fun u hu => ?_⟩
  rw [(key ⟨u, hu⟩).2.2, h2 u hu, Bool.eq_iff_iff]
  have e : u = v ↔ (u : Int) = (v : Int) := by omega
  simp [e]

theorem nodup_snoc {l : List Int} {x : Int} : (l ++ [x]).Nodup ↔ l.Nodup ∧ x ∉ l := by
  rw [List.nodup_append]
  constructor
  · rintro ⟨h1, -, h3⟩
    exact ⟨h1, fun hx => h3 x hx x (by simp) rfl⟩
  · rintro ⟨h1, h2⟩
    refine ⟨h1, by simp, fun y hy z hz => ?_⟩
    simp at hz
    subst hz
    rintro rfl
    exact h2 hy

end Go.Proofs.YtmgpekdhcghabaaGreat

/- Plain facts of chapter 4: amounts put together. -/
namespace Go.Proofs.YtmgpekdhcghabaaGreat
open Go.RowKit

/-- a row of rows, as it is read -/
def RowsI (w : World) (b : Nat) (v : Value) (Ls : List (List Int)) : Prop :=
  ∃ A c, v = .slice A Ls.length c ∧ Ls.length ≤ c ∧ c ≤ maxLen ∧ Ls.length ≤ small ∧ ∀ k (hk : k < Ls.length), ∃ g vk, A = some ⟨g, 0, none⟩ ∧ b ≤ g ∧ g < w.heap.size ∧ w.cell? ⟨g, k, none⟩ = some vk ∧ Ints w b vk Ls[k]
theorem RowsI.keep {w w' : World} {b : Nat} {v : Value} {Ls : List (List Int)} (h : RowsI w b v Ls) (hb : Below w.heap.size w w') : RowsI w' b v Ls := by
  obtain ⟨A, c, h1, h2, h3, h4, h5⟩ := h
  refine ⟨A, c, h1, h2, h3, h4, fun k hk => ?_⟩
  obtain ⟨g, vk, k1, k2, k3, k4, k5⟩ := h5 k hk
  exact ⟨g, vk, k1, k2, Nat.lt_of_lt_of_le k3 hb.size, (hb.cell (p := ⟨g, k, none⟩) k3).trans k4, k5.keep hb⟩

/-- what a row, an amount and places behind it, adds -/
def take1 (n : Nat) (a : Int) (o : List Int) (x : Int) : List Int := if 0 ≤ x ∧ x < n then o.set x.toNat (wrap64 (o.getD x.toNat 0 + a)) else o
def takeRow (n : Nat) (o : List Int) (L : List Int) : List Int := (L.drop 1).foldl (take1 n (L.getD 0 0)) o
theorem take1_len (n : Nat) (a : Int) (o : List Int) (x : Int) : (take1 n a o x).length = o.length := by
  unfold take1; split <;> simp
theorem takeRow_len (n : Nat) (o L : List Int) : (takeRow n o L).length = o.length := by
  unfold takeRow
  generalize L.drop 1 = l
  generalize L.getD 0 0 = a
  induction l generalizing o with
  | nil => rfl
  | cons x l ih => rw [List.foldl_cons, ih, take1_len]
end Go.Proofs.YtmgpekdhcghabaaGreat

/- Plain facts of chapter 4: walks along pipes that are not empty, and the rings of a flow. -/
namespace Go.Proofs.YtmgpekdhcghabaaGreat
open Go.RowKit

/-- does a pipe that is not empty begin there -/
def openP (ps : List Pp) (xs : List Int) (v : Int) (k : Nat) : Bool := decide ((ps.getD k zeroPp).fr = v) && decide (0 < xs.getD k 0)
def nextP (ps : List Pp) (xs : List Int) (v : Int) : Option Nat := (List.range ps.length).find? (openP ps xs v)
def goP (ps : List Pp) (xs : List Int) (c : Int) : Nat → List Int → List Nat → List Nat × Int
  | 0, _, walk => (walk, -1)
  | f + 1, nodes, walk =>
    match nextP ps xs (nodes.getLastD 0) with
    | none => (walk, -1)
    | some k => if (ps.getD k zeroPp).to ∈ nodes then (walk ++ [k], ((nodes.idxOf (ps.getD k zeroPp).to : Nat) : Int))
      else if (ps.getD k zeroPp).to = c then (walk ++ [k], -1) else goP ps xs c f (nodes ++ [(ps.getD k zeroPp).to]) (walk ++ [k])
def walkP (ps : List Pp) (xs : List Int) (a c : Int) : List Nat × Int := goP ps xs c 6 [a] []
def leastP (xs : List Int) (l : List Nat) : Int := l.foldl (fun r k => min r (xs.getD k 0)) 40
def lessP (d : Int) (xs : List Int) (l : List Nat) : List Int := l.foldl (fun o k => o.set k (o.getD k 0 - d)) xs
def firstP (xs : List Int) : Option Nat := (List.range xs.length).find? fun k => decide (0 < xs.getD k 0)
def ringP (ps : List Pp) (xs : List Int) (k : Nat) : List Nat := (walkP ps xs (ps.getD k zeroPp).fr (-1)).1.drop (walkP ps xs (ps.getD k zeroPp).fr (-1)).2.toNat
def ringsP (ps : List Pp) : Nat → List Int → List (List Int)
  | 0, _ => []
  | f + 1, xs => match firstP xs with
    | none => []
    | some k => (leastP xs (ringP ps xs k) :: (ringP ps xs k).map fun (k : Nat) => (k : Int)) :: ringsP ps f (lessP (leastP xs (ringP ps xs k)) xs (ringP ps xs k))
def posN (xs : List Int) : Nat := (List.range xs.length).countP fun k => decide (0 < xs.getD k 0)

section
variable {n a c v d : Int} {ps : List Pp} {xs : List Int} {nodes : List Int} {walk l : List Nat} {k f : Nat}

theorem range_find {m k : Nat} {p : Nat → Bool} : (List.range m).find? p = some k ↔ k < m ∧ p k = true ∧ ∀ i, i < k → p i = false := by
  rw [List.find?_range_eq_some]
  constructor
  · rintro ⟨h1, h2, h3⟩
    exact ⟨List.mem_range.1 h2, h1, fun i hi => by have := h3 i hi; simpa using this⟩
  · rintro ⟨h1, h2, h3⟩
    exact ⟨h2, List.mem_range.2 h1, fun i hi => by rw [h3 i hi]; rfl⟩
theorem range_none {m : Nat} {p : Nat → Bool} : (List.range m).find? p = none ↔ ∀ i, i < m → p i = false := by
  rw [List.find?_eq_none]
  constructor
  · intro h i hi; simpa using h i (List.mem_range.2 hi)
  · intro h i hi; rw [h i (List.mem_range.1 hi)]; simp

theorem go_none (h : nextP ps xs (nodes.getLastD 0) = none) : goP ps xs c (f + 1) nodes walk = (walk, -1) := by
  rw [goP, h]
theorem go_close (h : nextP ps xs (nodes.getLastD 0) = some k) (hm : (ps.getD k zeroPp).to ∈ nodes) : goP ps xs c (f + 1) nodes walk = (walk ++ [k], ((nodes.idxOf (ps.getD k zeroPp).to : Nat) : Int)) := by
  rw [goP, h]; simp only; rw [if_pos hm]
theorem go_end (h : nextP ps xs (nodes.getLastD 0) = some k) (hm : (ps.getD k zeroPp).to ∉ nodes) (hc : (ps.getD k zeroPp).to = c) : goP ps xs c (f + 1) nodes walk = (walk ++ [k], -1) := by
  rw [goP, h]; simp only; rw [if_neg hm, if_pos hc]
theorem go_on (h : nextP ps xs (nodes.getLastD 0) = some k) (hm : (ps.getD k zeroPp).to ∉ nodes) (hc : (ps.getD k zeroPp).to ≠ c) : goP ps xs c (f + 1) nodes walk = goP ps xs c f (nodes ++ [(ps.getD k zeroPp).to]) (walk ++ [k]) := by
  conv => lhs; rw [goP, h]
  simp only
  rw [if_neg hm, if_neg hc]

/-- different numbers below m are at most m -/
theorem nodup_len (m : Nat) : ∀ l : List Int, l.Nodup → (∀ x ∈ l, 0 ≤ x ∧ x < (m : Int)) → l.length ≤ m := by
  induction m with
  | zero =>
    intro l _ hl
    cases l with
    | nil => simp
    | cons x l => have := hl x (by simp); omega
  | succ m ih =>
    intro l hn hl
    by_cases hm : (m : Int) ∈ l
    · have h1 := List.length_erase_of_mem hm
      have h2 := ih (l.erase (m : Int)) (hn.erase _) (fun x hx => by
        have h3 := (hn.mem_erase_iff).1 hx
        have h4 := hl x h3.2
        have h5 := h3.1
        omega)
      omega
    · have := ih l hn (fun x hx => by
        have h4 := hl x hx
        have : x ≠ (m : Int) := fun e => hm (e ▸ hx)
        omega)
      omega

/-- a walk under way: so many nodes, all different; its pipes are open and begin at them -/
def walkSt (n : Int) (ps : List Pp) (xs : List Int) (nodes : List Int) (walk : List Nat) : Prop :=
  nodes.length = walk.length + 1 ∧ nodes.Nodup ∧ (∀ v ∈ nodes, 0 ≤ v ∧ v < n) ∧ (∀ k ∈ walk, k < ps.length ∧ 0 < xs.getD k 0) ∧ walk.map (fun k => (ps.getD k zeroPp).fr) = nodes.dropLast
theorem walk_start (h0 : 0 ≤ a) (h1 : a < n) : walkSt n ps xs [a] [] := by
  refine ⟨rfl, by simp, fun v hv => ?_, by simp, rfl⟩
  simp at hv; subst hv; exact ⟨h0, h1⟩
theorem walkSt.few (h : walkSt n ps xs nodes walk) (h0 : 0 ≤ n) : (nodes.length : Int) ≤ n := by
  have := nodup_len n.toNat nodes h.2.1 (fun x hx => by have := h.2.2.1 x hx; omega)
  omega
theorem next_parts (h : nextP ps xs v = some k) : k < ps.length ∧ (ps.getD k zeroPp).fr = v ∧ 0 < xs.getD k 0 := by
  obtain ⟨h1, h2, -⟩ := range_find.1 h
  simp only [openP, Bool.and_eq_true, decide_eq_true_eq] at h2
  exact ⟨h1, h2.1, h2.2⟩
theorem last_split (h : walkSt n ps xs nodes walk) : nodes.dropLast ++ [nodes.getLastD 0] = nodes := by
  have hne : nodes ≠ [] := by intro e; have := h.1; rw [e] at this; simp at this
  rw [List.getLastD_eq_getLast?, List.getLast?_eq_some_getLast hne]
  exact List.dropLast_concat_getLast hne
theorem walkSt.fr' (h : walkSt n ps xs nodes walk) (hk : nextP ps xs (nodes.getLastD 0) = some k) : (walk ++ [k]).map (fun k => (ps.getD k zeroPp).fr) = nodes := by
  rw [List.map_append, h.2.2.2.2, List.map_singleton, (next_parts hk).2.1, last_split h]
theorem walkSt.pipes (h : walkSt n ps xs nodes walk) (hk : nextP ps xs (nodes.getLastD 0) = some k) : ∀ q ∈ walk ++ [k], q < ps.length ∧ 0 < xs.getD q 0 := by
  intro q hq
  rcases List.mem_append.1 hq with hq | hq
  · exact h.2.2.2.1 q hq
  · simp at hq; subst hq; exact ⟨(next_parts hk).1, (next_parts hk).2.2⟩
theorem walkSt.on (h : walkSt n ps xs nodes walk) (hk : nextP ps xs (nodes.getLastD 0) = some k) (hm : (ps.getD k zeroPp).to ∉ nodes) (h0 : 0 ≤ (ps.getD k zeroPp).to) (h1 : (ps.getD k zeroPp).to < n) : walkSt n ps xs (nodes ++ [(ps.getD k zeroPp).to]) (walk ++ [k]) := by
  refine ⟨by simp [h.1], nodup_snoc.2 ⟨h.2.1, hm⟩, fun v hv => ?_, h.pipes hk, ?_⟩
  · rcases List.mem_append.1 hv with hv | hv
    · exact h.2.2.1 v hv
    · simp at hv; subst hv; exact ⟨h0, h1⟩
  · rw [h.fr' hk, List.dropLast_concat]

/-- what a walk has gone along: open pipes, from different nodes; and the place where it closes lies within it -/
def walkEnd (ps : List Pp) (xs : List Int) (r : List Nat × Int) : Prop :=
  (r.1.map (fun k => (ps.getD k zeroPp).fr)).Nodup ∧ (∀ k ∈ r.1, k < ps.length ∧ 0 < xs.getD k 0) ∧ (r.2 = -1 ∨ (0 ≤ r.2 ∧ r.2 < r.1.length)) ∧ r.1.length ≤ 6
theorem go_ends (hr : ∀ p ∈ ps, 0 ≤ p.to ∧ p.to < n) (hn : n ≤ 5) (hn0 : 0 ≤ n) : ∀ (f : Nat) (nodes : List Int) (walk : List Nat), walkSt n ps xs nodes walk → walkEnd ps xs (goP ps xs c f nodes walk) := by
  intro f
  induction f with
  | zero =>
    intro nodes walk h
    have := h.few hn0
    have h1 := h.1
    refine ⟨?_, h.2.2.2.1, .inl rfl, by simp [goP]; omega⟩
    show (walk.map _).Nodup
    rw [h.2.2.2.2]
    exact h.2.1.sublist (List.dropLast_sublist _)
  | succ f ih =>
    intro nodes walk h
    have hfew := h.few hn0
    have h1 := h.1
    rcases hk : nextP ps xs (nodes.getLastD 0) with _ | k
    · rw [go_none hk]
      refine ⟨?_, h.2.2.2.1, .inl rfl, by simp; omega⟩
      show (walk.map _).Nodup
      rw [h.2.2.2.2]
      exact h.2.1.sublist (List.dropLast_sublist _)
    · have hnd : ((walk ++ [k]).map (fun k => (ps.getD k zeroPp).fr)).Nodup := by rw [h.fr' hk]; exact h.2.1
      by_cases hm : (ps.getD k zeroPp).to ∈ nodes
      · rw [go_close hk hm]
        refine ⟨hnd, h.pipes hk, .inr ⟨by omega, ?_⟩, by simp; omega⟩
        have h2 := List.idxOf_lt_length_iff.2 hm
        show ((nodes.idxOf (ps.getD k zeroPp).to : Nat) : Int) < ((walk ++ [k]).length : Int)
        rw [List.length_append, List.length_singleton]
        omega
      · by_cases hc : (ps.getD k zeroPp).to = c
        · rw [go_end hk hm hc]
          exact ⟨hnd, h.pipes hk, .inl rfl, by simp; omega⟩
        · rw [go_on hk hm hc]
          have hkl := (next_parts hk).1
          have := hr ps[k] (List.getElem_mem hkl)
          have e : (ps.getD k zeroPp) = ps[k] := by simp [List.getD_eq_getElem?_getD, hkl]
          exact ih _ _ (h.on hk hm (by rw [e]; exact this.1) (by rw [e]; exact this.2))

theorem go_ext : ∀ (f : Nat) (nodes : List Int) (walk : List Nat), ∃ ext, (goP ps xs c f nodes walk).1 = walk ++ ext := by
  intro f
  induction f with
  | zero => intro nodes walk; exact ⟨[], by simp [goP]⟩
  | succ f ih =>
    intro nodes walk
    rcases hk : nextP ps xs (nodes.getLastD 0) with _ | k
    · rw [go_none hk]; exact ⟨[], by simp⟩
    · by_cases hm : (ps.getD k zeroPp).to ∈ nodes
      · rw [go_close hk hm]; exact ⟨[k], rfl⟩
      · by_cases hc : (ps.getD k zeroPp).to = c
        · rw [go_end hk hm hc]; exact ⟨[k], rfl⟩
        · rw [go_on hk hm hc]
          obtain ⟨ext, he⟩ := ih (nodes ++ [(ps.getD k zeroPp).to]) (walk ++ [k])
          exact ⟨[k] ++ ext, by rw [he, List.append_assoc]⟩
theorem go_some (hk : nextP ps xs (nodes.getLastD 0) = some k) : (goP ps xs c (f + 1) nodes walk).1 ≠ [] := by
  by_cases hm : (ps.getD k zeroPp).to ∈ nodes
  · rw [go_close hk hm]; simp
  · by_cases hc : (ps.getD k zeroPp).to = c
    · rw [go_end hk hm hc]; simp
    · rw [go_on hk hm hc]
      obtain ⟨ext, he⟩ := go_ext (c := c) (ps := ps) (xs := xs) f (nodes ++ [(ps.getD k zeroPp).to]) (walk ++ [k])
      rw [he]; simp

theorem leastF (l : List Nat) : ∀ r : Int, l.foldl (fun r k => min r (xs.getD k 0)) r ≤ r ∧ (∀ k ∈ l, l.foldl (fun r k => min r (xs.getD k 0)) r ≤ xs.getD k 0) ∧ (l.foldl (fun r k => min r (xs.getD k 0)) r = r ∨ ∃ k ∈ l, l.foldl (fun r k => min r (xs.getD k 0)) r = xs.getD k 0) := by
  induction l with
  | nil => intro r; exact ⟨Int.le_refl _, by simp, .inl rfl⟩
  | cons q l ih =>
    intro r
    obtain ⟨h1, h2, h3⟩ := ih (min r (xs.getD q 0))
    simp only [List.foldl_cons]
    refine ⟨by omega, fun k hk => ?_, ?_⟩
    · rcases List.mem_cons.1 hk with rfl | hk
      · omega
      · exact h2 k hk
    · rcases h3 with h3 | ⟨k, hk, h3⟩
      · rcases (show min r (xs.getD q 0) = r ∨ min r (xs.getD q 0) = xs.getD q 0 by omega) with h | h
        · left; omega
        · right; exact ⟨q, by simp, by omega⟩
      · right; exact ⟨k, by simp [hk], h3⟩
theorem less_len (d : Int) (l : List Nat) : ∀ xs : List Int, (lessP d xs l).length = xs.length := by
  induction l with
  | nil => intro xs; rfl
  | cons q l ih =>
    intro xs
    have : lessP d xs (q :: l) = lessP d (xs.set q (xs.getD q 0 - d)) l := rfl
    rw [this, ih]; simp
theorem getD_setN (o : List Int) (k i : Nat) (y : Int) : (o.set k y).getD i 0 = if k = i ∧ i < o.length then y else o.getD i 0 := by
  simp only [List.getD_eq_getElem?_getD, List.getElem?_set]
  by_cases h : k = i
  · subst h
    by_cases hl : k < o.length <;> simp [hl]
  · simp [h]
theorem less_at (d : Int) (l : List Nat) : ∀ xs : List Int, l.Nodup → (∀ k ∈ l, k < xs.length) → ∀ i, (lessP d xs l).getD i 0 = xs.getD i 0 - (if i ∈ l then d else 0) := by
  induction l with
  | nil => intro xs _ _ i; simp [lessP]
  | cons q l ih =>
    intro xs hn hl i
    obtain ⟨hq, hn'⟩ := List.nodup_cons.1 hn
    have : lessP d xs (q :: l) = lessP d (xs.set q (xs.getD q 0 - d)) l := rfl
    rw [this, ih _ hn' (fun k hk => by rw [List.length_set]; exact hl k (by simp [hk])), getD_setN]
    have hql := hl q (by simp)
    by_cases hqi : q = i
    · subst hqi
      simp [hq, hql]
    · have : i ≠ q := fun e => hqi e.symm
      simp [hqi, this]

theorem count_lt {p q : Nat → Bool} : ∀ l : List Nat, (∀ x ∈ l, q x = true → p x = true) → (∃ x ∈ l, p x = true ∧ q x = false) → l.countP q < l.countP p := by
  intro l
  induction l with
  | nil => rintro _ ⟨x, hx, -⟩; simp at hx
  | cons y l ih =>
    intro h1 ⟨x, hx, hp, hq⟩
    have hle : l.countP q ≤ l.countP p := List.countP_mono_left fun z hz => h1 z (by simp [hz])
    rw [List.countP_cons, List.countP_cons]
    rcases List.mem_cons.1 hx with rfl | hx
    · rw [if_pos hp, if_neg (by rw [hq]; simp)]; omega
    · have := ih (fun z hz => h1 z (by simp [hz])) ⟨x, hx, hp, hq⟩
      have hy := h1 y (by simp)
      by_cases hqy : q y = true
      · rw [if_pos hqy, if_pos (hy hqy)]; omega
      · rw [if_neg hqy]
        split <;> omega

/-- what is known of a ring: open pipes, all different, at least one -/
theorem ring_parts (hr : ∀ p ∈ ps, 0 ≤ p.fr ∧ p.fr < n ∧ 0 ≤ p.to ∧ p.to < n) (hn : n ≤ 5) (hk : k < ps.length) (hx : 0 < xs.getD k 0) :
    walkEnd ps xs (walkP ps xs (ps.getD k zeroPp).fr (-1)) ∧ ringP ps xs k ≠ [] ∧ (ringP ps xs k).Nodup ∧ ∀ q ∈ ringP ps xs k, q < ps.length ∧ 0 < xs.getD q 0 := by
  have e : (ps.getD k zeroPp) = ps[k] := by simp [List.getD_eq_getElem?_getD, hk]
  have hp := hr ps[k] (List.getElem_mem hk)
  have hst : walkSt n ps xs [(ps.getD k zeroPp).fr] [] := walk_start (by rw [e]; exact hp.1) (by rw [e]; exact hp.2.1)
  have hend := go_ends (c := -1) (fun p hp => ⟨(hr p hp).2.2.1, (hr p hp).2.2.2⟩) hn (by omega) 6 _ _ hst
  have hsome : ∃ q, nextP ps xs ([(ps.getD k zeroPp).fr].getLastD 0) = some q := by
    rcases hq : nextP ps xs ([(ps.getD k zeroPp).fr].getLastD 0) with _ | q
    · have := range_none.1 hq k hk
      simp [openP] at this
      exact absurd hx (by simpa [List.getD_eq_getElem?_getD] using this)
    · exact ⟨q, rfl⟩
  obtain ⟨q, hq⟩ := hsome
  have hne : (walkP ps xs (ps.getD k zeroPp).fr (-1)).1 ≠ [] := go_some (f := 5) (walk := []) hq
  obtain ⟨h1, h2, h3, h4⟩ := id hend
  refine ⟨hend, ?_, ?_, fun q hq => h2 q (List.mem_of_mem_drop hq)⟩
  · intro hnil
    have h5 := List.drop_eq_nil_iff.1 hnil
    have h6 : 0 < (walkP ps xs (ps.getD k zeroPp).fr (-1)).1.length := List.length_pos_iff.2 hne
    have h7 : (walkP ps xs (ps.getD k zeroPp).fr (-1)).2 = -1 ∨ (0 ≤ (walkP ps xs (ps.getD k zeroPp).fr (-1)).2 ∧ (walkP ps xs (ps.getD k zeroPp).fr (-1)).2 < (walkP ps xs (ps.getD k zeroPp).fr (-1)).1.length) := h3
    omega
  · have h8 : (walkP ps xs (ps.getD k zeroPp).fr (-1)).1.Nodup := by
      have h9 : ((walkP ps xs (ps.getD k zeroPp).fr (-1)).1.map (fun k => (ps.getD k zeroPp).fr)).Nodup := h1
      exact List.Pairwise.of_map (fun k => (ps.getD k zeroPp).fr) (fun a b h e => h (by rw [e])) h9
    exact h8.sublist (List.drop_sublist _ _)

/-- the amount that a ring takes out, and what is left -/
theorem ring_less (hl : xs.length = ps.length) (hb : ∀ i, 0 ≤ xs.getD i 0 ∧ xs.getD i 0 ≤ 40) (hne : l ≠ []) (hnd : l.Nodup) (hop : ∀ q ∈ l, q < ps.length ∧ 0 < xs.getD q 0) :
    0 < leastP xs l ∧ leastP xs l ≤ 40 ∧ (∀ i, 0 ≤ (lessP (leastP xs l) xs l).getD i 0 ∧ (lessP (leastP xs l) xs l).getD i 0 ≤ xs.getD i 0) ∧ posN (lessP (leastP xs l) xs l) < posN xs := by
  obtain ⟨h1, h2, h3⟩ := leastF (xs := xs) l 40
  have hat := less_at (leastP xs l) l xs hnd (fun k hk => by rw [hl]; exact (hop k hk).1)
  obtain ⟨q0, hq0⟩ := List.exists_mem_of_ne_nil l hne
  have hatt : ∃ q ∈ l, leastP xs l = xs.getD q 0 := by
    rcases h3 with h3 | h3
    · refine ⟨q0, hq0, ?_⟩
      have e1 : leastP xs l = 40 := h3
      have e2 : leastP xs l ≤ xs.getD q0 0 := h2 q0 hq0
      have := hb q0
      omega
    · exact h3
  obtain ⟨q, hq, hqe⟩ := hatt
  have hpos : 0 < leastP xs l := by rw [hqe]; exact (hop q hq).2
  have hbd : ∀ i, 0 ≤ (lessP (leastP xs l) xs l).getD i 0 ∧ (lessP (leastP xs l) xs l).getD i 0 ≤ xs.getD i 0 := by
    intro i
    rw [hat i]
    have := hb i
    by_cases hi : i ∈ l
    · have h5 : leastP xs l ≤ xs.getD i 0 := h2 i hi
      rw [if_pos hi]; omega
    · rw [if_neg hi]; omega
  refine ⟨hpos, h1, hbd, ?_⟩
  unfold posN
  rw [less_len]
  refine count_lt _ (fun x _ hx => ?_) ⟨q, List.mem_range.2 (by rw [hl]; exact (hop q hq).1), decide_eq_true (hop q hq).2, ?_⟩
  · have := of_decide_eq_true hx
    exact decide_eq_true (by have := hbd x; omega)
  · rw [decide_eq_false_iff_not, hat q, if_pos hq, hqe]
    omega
end

end Go.Proofs.YtmgpekdhcghabaaGreat
