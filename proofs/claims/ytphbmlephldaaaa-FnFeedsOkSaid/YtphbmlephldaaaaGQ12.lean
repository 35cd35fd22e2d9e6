/- Plain facts. -/
import Derived.Test.YtphbmlephldaaaaGQ11
import Derived.Test.YtphbmlephldaaaaV6
import Derived.Test.YtphbmlephldaaaaGQ17
/- Plain facts of chapter 4: in a balanced flow each ring is closed, and what is left is balanced. -/
namespace Go.Proofs.Ytphbmlephldaaaa
open Go.RowKit

section
variable {n a c d : Int} {ps : List Pp} {xs : List Int} {k : Nat}

/-- where a pipe that is not empty leads to, or where one began -/
def comeTo (ps : List Pp) (xs : List Int) (a v : Int) : Prop := v = a ∨ ∃ k, k < ps.length ∧ (ps.getD k zeroPp).to = v ∧ 0 < xs.getD k 0

theorem go_closes (hn0 : 0 ≤ n) (hn : n ≤ 5) (hr : ∀ p ∈ ps, 0 ≤ p.to ∧ p.to < n) (hc : c < 0) (hnext : ∀ v, comeTo ps xs a v → ∃ q, nextP ps xs v = some q) : ∀ (f : Nat) (nodes : List Int) (walk : List Nat), walkSt n ps xs nodes walk → f + walk.length = 6 → comeTo ps xs a (nodes.getLastD 0) → 0 ≤ (goP ps xs c f nodes walk).2 := by
  intro f
  induction f with
  | zero =>
    intro nodes walk h hf _
    have := h.few hn0
    have := h.1
    omega
  | succ f ih =>
    intro nodes walk h hf hl
    obtain ⟨q, hq⟩ := hnext _ hl
    have hkl := (next_parts hq).1
    have e : (ps.getD q zeroPp) = ps[q] := by simp [List.getD_eq_getElem?_getD, hkl]
    have hp := hr ps[q] (List.getElem_mem hkl)
    by_cases hm : (ps.getD q zeroPp).to ∈ nodes
    · rw [go_close hq hm]; omega
    · have hne : (ps.getD q zeroPp).to ≠ c := by rw [e]; omega
      rw [go_on hq hm hne]
      refine ih _ _ (h.on hq hm (by rw [e]; exact hp.1) (by rw [e]; exact hp.2)) (by rw [List.length_append, List.length_singleton]; omega) ?_
      rw [List.getLastD_concat]
      exact .inr ⟨q, hkl, rfl, (next_parts hq).2.2⟩

theorem bal_comes (h : balB n ps xs = true) (hk : k < ps.length) (hx : 0 < xs.getD k 0) : ∀ v, comeTo ps xs (ps.getD k zeroPp).fr v → ∃ q, nextP ps xs v = some q := by
  intro v hv
  rcases hv with rfl | ⟨j, hj, hj2, hj3⟩
  · rcases hq : nextP ps xs (ps.getD k zeroPp).fr with _ | q
    · have h1 := range_none.1 hq k hk
      rw [openP, decide_eq_true rfl, decide_eq_true hx] at h1
      cases h1
    · exact ⟨q, rfl⟩
  · have hfl := bal_flow h
    obtain ⟨hn, -, -⟩ := flowOk_parts hfl
    have e : (ps.getD j zeroPp) = ps[j] := by simp [List.getD_eq_getElem?_getD, hj]
    obtain ⟨-, -, p0, p1, -⟩ := pipeOk_parts ((netOk_parts hn).2.2.2 ps[j] (List.getElem_mem hj))
    rw [← e, hj2] at p0 p1
    exact bal_next h p0 p1 ⟨j, hj, hj2, hj3⟩

theorem bal_ring (h : balB n ps xs = true) (hk : k < ps.length) (hx : 0 < xs.getD k 0) : closedN ps (ringP ps xs k) ∧ 0 ≤ (walkP ps xs (ps.getD k zeroPp).fr (-1)).2 := by
  have hfl := bal_flow h
  obtain ⟨hn, -, -⟩ := flowOk_parts hfl
  obtain ⟨n2, n5, -, hpo⟩ := netOk_parts hn
  have hr : ∀ p ∈ ps, 0 ≤ p.to ∧ p.to < n := fun p hp => by obtain ⟨-, -, p2, p3, -⟩ := pipeOk_parts (hpo p hp); exact ⟨p2, p3⟩
  have e : (ps.getD k zeroPp) = ps[k] := by simp [List.getD_eq_getElem?_getD, hk]
  obtain ⟨f0, f1, -⟩ := pipeOk_parts (hpo ps[k] (List.getElem_mem hk))
  have hst : walkSt n ps xs [(ps.getD k zeroPp).fr] [] := walk_start (by rw [e]; exact f0) (by rw [e]; exact f1)
  have h0 := go_closes (c := -1) (by omega) n5 hr (by omega) (bal_comes h hk hx) 6 _ _ hst rfl (.inl rfl)
  exact ⟨go_closed 6 _ _ hst (fun i hi => absurd hi (by simp)) hr h0, h0⟩

theorem bal_less (h : balB n ps xs = true) (hk : k < ps.length) (hx : 0 < xs.getD k 0) : balB n ps (lessP (leastP xs (ringP ps xs k)) xs (ringP ps xs k)) = true := by
  have hfl := bal_flow h
  obtain ⟨hn, hlen, -⟩ := flowOk_parts hfl
  obtain ⟨n2, n5, -, hpo⟩ := netOk_parts hn
  have hxb := flow_getD hfl
  obtain ⟨-, hne, hnd, hop⟩ := ring_parts (n := n) (fun p hp => by obtain ⟨p0, p1, p2, p3, -⟩ := pipeOk_parts (hpo p hp); exact ⟨p0, p1, p2, p3⟩) n5 hk hx
  obtain ⟨-, -, hb, -⟩ := ring_less hlen hxb hne hnd hop
  have hcl := (bal_ring h hk hx).1
  simp only [balB, Bool.and_eq_true, List.all_eq_true, beq_iff_eq] at h ⊢
  refine ⟨?_, fun j hj => ?_⟩
  · simp only [flowOkB, Bool.and_eq_true, decide_eq_true_eq, List.all_eq_true]
    refine ⟨⟨hn, by rw [less_len]; exact hlen⟩, fun x hxm => ?_⟩
    obtain ⟨i, hi, rfl⟩ := List.getElem_of_mem hxm
    have h1 := hb i
    rw [getD_at hi] at h1
    have h2 := hxb i
    simp only [withinB, Bool.and_eq_true, decide_eq_true_eq]
    omega
  · rw [less_exc hn hlen hne (fun q hq => (hop q hq).1) hcl]
    exact h.2 j hj
end

end Go.Proofs.Ytphbmlephldaaaa

/- Contracts of the functions of chapter 4 in the program: the rings of a flow. -/
namespace Go.Proofs.Ytphbmlephldaaaa
open Go.RowKit

/-- no two of these rows share memory -/
def Apart (vs : List Value) : Prop := ∀ i j, (h : i < j) → (hj : j < vs.length) → (vs[i]'(by omega)).ownBlock = none ∨ (vs[i]'(by omega)).ownBlock ≠ vs[j].ownBlock
theorem Apart.snoc {vs : List Value} {row : Value} {B : Nat} (h : Apart vs) (h1 : ∀ i (h : i < vs.length) q, vs[i].ownBlock = some q → q < B) (h2 : ∀ q, row.ownBlock = some q → B ≤ q) : Apart (vs ++ [row]) := by
  intro i j hij hj
  have hi : i < vs.length := by simp at hj; omega
  have ei : (vs ++ [row])[i]'(by simp; omega) = vs[i] := List.getElem_append_left hi
  rw [ei]
  by_cases hlt : j < vs.length
  · have ej : (vs ++ [row])[j] = vs[j] := List.getElem_append_left hlt
    rw [ej]
    exact h i j hij hlt
  · have hjl : j = vs.length := by simp at hj; omega
    subst hjl
    have ej : (vs ++ [row])[vs.length] = row := by simp
    rw [ej]
    cases hv : vs[i].ownBlock with
    | none => exact .inl rfl
    | some k =>
      refine .inr fun he => ?_
      have a1 := h1 i hi k hv
      have a2 := h2 k he.symm
      omega

def OwnRowsV (w : World) (b : Nat) (v : Value) (Ls : List (List Int)) : Prop :=
  ∃ vs : List Value, vs.length = Ls.length ∧ w.ownsRow b 40 1 v Ls.length vs ∧ Ls.length ≤ small ∧ (∀ k (h : k < Ls.length) (h' : k < vs.length), Ints w b vs[k] Ls[k]) ∧ Apart vs
theorem OwnRowsV.keep {w w' : World} {b : Nat} {v : Value} {Ls : List (List Int)} (h : OwnRowsV w b v Ls) (hb : Below w.heap.size w w') : OwnRowsV w' b v Ls := by
  obtain ⟨vs, h1, h2, h3, h4, h5⟩ := h
  exact ⟨vs, h1, own_keep h2 (Nat.le_refl _) hb, h3, fun k hk hk' => (h4 k hk hk').keep hb, h5⟩
theorem OwnRowsV.none_ (w : World) (b : Nat) : OwnRowsV w b (.slice none 0 0) [] := ⟨[], rfl, World.ownsRow_nil _ _ _ 1, by simp [small], fun k hk => absurd hk (by simp), fun i j _ hj => absurd hj (by simp)⟩
theorem Ints.otherV {w w' : World} {b b2 N : Nat} {v v2 : Value} {xs : List Int} {vs : List Value} (h : Ints w b v xs) (ho : w.ownsRow b2 40 1 v2 N vs) (hg : w.grownBy w' v2.ownBlock) : Ints w' b v xs := by
  rcases ho.2 with ⟨h2, hn⟩ | ⟨g, cap, cur, h2, r⟩
  · subst h2
    refine ⟨h.1.kept hg ?_, h.2⟩
    by_cases hv : v.ownBlock = none
    · exact .inl hv
    · exact .inr hv
  · subst h2
    exact h.other ho hg
theorem rows_snocV {w w6 : World} {b g6 k6 : Nat} {v2 : Value} {Ls : List (List Int)} {L : List Int} {row : Value} {vs : List Value} (h1 : vs.length = Ls.length) (h2 : w.ownsRow b 40 1 v2 Ls.length vs)
    (h4 : ∀ k (h : k < Ls.length) (h' : k < vs.length), Ints w b vs[k] Ls[k]) (hr : Ints w b row L) (hap : Apart (vs ++ [row])) (hs : Ls.length + 1 ≤ small) (hg : w.grownBy w6 v2.ownBlock)
    (ho : w6.ownsRow b 40 1 (.slice (some ⟨g6, 0, none⟩) (Ls.length + 1) k6) (Ls.length + 1) (vs ++ [row])) : OwnRowsV w6 b (.slice (some ⟨g6, 0, none⟩) (Ls.length + 1) k6) (Ls ++ [L]) := by
  have hl : (Ls ++ [L]).length = Ls.length + 1 := by simp
  refine ⟨vs ++ [row], by simp [h1], by rw [hl]; exact ho, by rw [hl]; exact hs, fun k hk hk' => ?_, hap⟩
  by_cases hlt : k < Ls.length
  · have e1 : (vs ++ [row])[k] = vs[k]'(by omega) := List.getElem_append_left (by omega)
    have e2 : (Ls ++ [L])[k] = Ls[k] := List.getElem_append_left hlt
    rw [e1, e2]
    exact (h4 k hlt (by omega)).otherV h2 hg
  · have hkl : k = Ls.length := by omega
    subst hkl
    have e1 : (vs ++ [row])[Ls.length] = row := by simp [← h1]
    have e2 : (Ls ++ [L])[Ls.length] = L := by simp
    rw [e1, e2]
    exact hr.otherV h2 hg

end Go.Proofs.Ytphbmlephldaaaa
