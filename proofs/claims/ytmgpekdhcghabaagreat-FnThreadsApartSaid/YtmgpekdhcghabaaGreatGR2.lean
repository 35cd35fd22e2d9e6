/- Plain facts. -/
import Derived.Test.YtmgpekdhcghabaaGreatGR20
/- Plain facts of chapter 4: in a balanced flow each ring is closed, and what is left is balanced. -/
namespace Go.Proofs.YtmgpekdhcghabaaGreat
open Go.RowKit

section
variable {n a c d : Int} {ps : List Pp} {xs : List Int} {k : Nat}

/-- where a pipe that is not empty leads to, or where one began -/
def comeTo (ps : List Pp) (xs : List Int) (a v : Int) : Prop := v = a ∨ ∃ k, k < ps.length ∧ (ps.getD k zeroPp).to = v ∧ 0 < xs.getD k 0

theorem go_closes (hn0 : 0 ≤ n) (hn : n ≤ 5) (hr : ∀ p ∈ ps, 0 ≤ p.to ∧ p.to < n) (hc : c < 0) (hnext : ∀ v, comeTo ps xs a v → ∃ q, nextP ps xs v = some q) : ∀ (f : Nat) (nodes : List Int) (walk : List Nat), walkSt n ps xs nodes walk → f + walk.length = 6 → comeTo ps xs a (nodes.getLastD 0) → 0 ≤ (goP ps xs c f nodes walk).2 := by
  intro f
  induction f with
  | zero =>
    intro nodes walk h hf _
    have := h.few hn0
    have := h.1
    omega
  | succ f ih =>
    intro nodes walk h hf hl
    obtain ⟨q, hq⟩ := hnext _ hl
    have hkl := (next_parts hq).1
    have e : (ps.getD q zeroPp) = ps[q] := by simp [List.getD_eq_getElem?_getD, hkl]
    have hp := hr ps[q] (List.getElem_mem hkl)
    by_cases hm : (ps.getD q zeroPp).to ∈ nodes
    · rw [go_close hq hm]; omega
    · have hne : (ps.getD q zeroPp).to ≠ c := by rw [e]; omega
      rw [go_on hq hm hne]
      refine ih _ _ (h.on hq hm (by rw [e]; exact hp.1) (by rw [e]; exact hp.2)) (by rw [List.length_append, List.length_singleton]; omega) ?_
      rw [List.getLastD_concat]
      exact .inr ⟨q, hkl, rfl, (next_parts hq).2.2⟩

theorem bal_comes (h : balB n ps xs = true) (hk : k < ps.length) (hx : 0 < xs.getD k 0) : ∀ v, comeTo ps xs (ps.getD k zeroPp).fr v → ∃ q, nextP ps xs v = some q := by
  intro v hv
  rcases hv with rfl | ⟨j, hj, hj2, hj3⟩
  · rcases hq : nextP ps xs (ps.getD k zeroPp).fr with _ | q
    · have h1 := range_none.1 hq k hk
      rw [openP, decide_eq_true rfl, decide_eq_true hx] at h1
      cases h1
    · exact ⟨q, rfl⟩
  · have hfl := bal_flow h
    obtain ⟨hn, -, -⟩ := flowOk_parts hfl
    have e : (ps.getD j zeroPp) = ps[j] := by simp [List.getD_eq_getElem?_getD, hj]
    obtain ⟨-, -, p0, p1, -⟩ := pipeOk_parts ((netOk_parts hn).2.2.2 ps[j] (List.getElem_mem hj))
    rw [← e, hj2] at p0 p1
    exact bal_next h p0 p1 ⟨j, hj, hj2, hj3⟩

theorem bal_ring (h : balB n ps xs = true) (hk : k < ps.length) (hx : 0 < xs.getD k 0) : closedN ps (ringP ps xs k) ∧ 0 ≤ (walkP ps xs (ps.getD k zeroPp).fr (-1)).2 := by
  have hfl := bal_flow h
  obtain ⟨hn, -, -⟩ := flowOk_parts hfl
  obtain ⟨n2, n5, -, hpo⟩ := netOk_parts hn
  have hr : ∀ p ∈ ps, 0 ≤ p.to ∧ p.to < n := fun p hp => by obtain ⟨-, -, p2, p3, -⟩ := pipeOk_parts (hpo p hp); exact ⟨p2, p3⟩
  have e : (ps.getD k zeroPp) = ps[k] := by simp [List.getD_eq_getElem?_getD, hk]
  obtain ⟨f0, f1, -⟩ := pipeOk_parts (hpo ps[k] (List.getElem_mem hk))
  have hst : walkSt n ps xs [(ps.getD k zeroPp).fr] [] := walk_start (by rw [e]; exact f0) (by rw [e]; exact f1)
  have h0 := go_closes (c := -1) (by omega) n5 hr (by omega) (bal_comes h hk hx) 6 _ _ hst rfl (.inl rfl)
  exact ⟨go_closed 6 _ _ hst (fun i hi => absurd hi (by simp)) hr h0, h0⟩

theorem bal_less (h : balB n ps xs = true) (hk : k < ps.length) (hx : 0 < xs.getD k 0) : balB n ps (lessP (leastP xs (ringP ps xs k)) xs (ringP ps xs k)) = true := by
  have hfl := bal_flow h
  obtain ⟨hn, hlen, -⟩ := flowOk_parts hfl
  obtain ⟨n2, n5, -, hpo⟩ := netOk_parts hn
  have hxb := flow_getD hfl
  obtain ⟨-, hne, hnd, hop⟩ := ring_parts (n := n) (fun p hp => by obtain ⟨p0, p1, p2, p3, -⟩ := pipeOk_parts (hpo p hp); exact ⟨p0, p1, p2, p3⟩) n5 hk hx
  obtain ⟨-, -, hb, -⟩ := ring_less hlen hxb hne hnd hop
  have hcl := (bal_ring h hk hx).1
  simp only [balB, Bool.and_eq_true, List.all_eq_true, beq_iff_eq] at h ⊢
  refine ⟨?_, fun j hj => ?_⟩
  · simp only [flowOkB, Bool.and_eq_true, decide_eq_true_eq, List.all_eq_true]
    refine ⟨⟨hn, by rw [less_len]; exact hlen⟩, fun x hxm => ?_⟩
    obtain ⟨i, hi, rfl⟩ := List.getElem_of_mem hxm
    have h1 := hb i
    rw [getD_at hi] at h1
    have h2 := hxb i
    simp only [withinB, Bool.and_eq_true, decide_eq_true_eq]
    omega
  · rw [less_exc hn hlen hne (fun q hq => (hop q hq).1) hcl]
    exact h.2 j hj
end

end Go.Proofs.YtmgpekdhcghabaaGreat

/- Plain facts of chapter 4: the parts of a flow between two nodes. -/
namespace Go.Proofs.YtmgpekdhcghabaaGreat
open Go.RowKit

def partP (ps : List Pp) (xs : List Int) (a b : Int) : List Nat := (walkP ps xs a b).1.drop (walkP ps xs a b).2.toNat
def partD (ps : List Pp) (xs : List Int) (a b left : Int) : Int := if 0 ≤ (walkP ps xs a b).2 then leastP xs (partP ps xs a b) else min (leastP xs (partP ps xs a b)) left
def partL (ps : List Pp) (xs : List Int) (a b left : Int) : Int := if 0 ≤ (walkP ps xs a b).2 then left else left - partD ps xs a b left
def partsP (ps : List Pp) (a b : Int) : Nat → Int → List Int → List (List Int)
  | 0, _, _ => []
  | f + 1, left, xs => if 0 < left then (partD ps xs a b left :: natsI (partP ps xs a b)) :: partsP ps a b f (partL ps xs a b left) (lessP (partD ps xs a b left) xs (partP ps xs a b)) else ringsL ps xs
def flowsB (n : Int) (ps : List Pp) (xs : List Int) (a b : Int) : Bool := ((List.range n.toNat).all fun k : Nat => decide ((k : Int) = a) || decide ((k : Int) = b) || decide (exc (k : Int) ps xs = 0)) && decide (0 ≤ exc b ps xs)
def partsOkB (n : Int) (ps : List Pp) (xs : List Int) (a b : Int) : Bool := flowOkB n ps xs && endsB n ps a b && flowsB n ps xs a b
def partsR (n : Int) (ps : List Pp) (xs : List Int) (a b : Int) : List (List Int) := if partsOkB n ps xs a b = true then partsP ps a b 10 (exc b ps xs) xs else []

section
variable {n a b c d left : Int} {ps : List Pp} {xs : List Int} {nodes : List Int} {walk l : List Nat} {k f : Nat}

/-- what stays so while parts are taken out -/
structure PartSt (n : Int) (ps : List Pp) (xs : List Int) (a b left : Int) : Prop where
  flow : flowOkB n ps xs = true
  ends : endsB n ps a b = true
  two : ∀ v : Int, 0 ≤ v → v < n → v ≠ a → v ≠ b → exc v ps xs = 0
  left : exc b ps xs = left

theorem PartSt.of (h : partsOkB n ps xs a b = true) : PartSt n ps xs a b (exc b ps xs) ∧ 0 ≤ exc b ps xs := by
  simp only [partsOkB, flowsB, Bool.and_eq_true, List.all_eq_true, Bool.or_eq_true, decide_eq_true_eq] at h
  obtain ⟨⟨h1, h2⟩, h3, h4⟩ := h
  refine ⟨⟨h1, h2, fun v v0 v1 ha hb => ?_, rfl⟩, h4⟩
  have := h3 v.toNat (List.mem_range.2 (by omega))
  rw [show ((v.toNat : Nat) : Int) = v by omega] at this
  rcases this with (h | h) | h
  · exact absurd h ha
  · exact absurd h hb
  · exact h

theorem PartSt.next (h : PartSt n ps xs a b left) (h0 : 0 < left) : ∀ v, comeTo ps xs a v → v ≠ b → ∃ q, nextP ps xs v = some q := by
  obtain ⟨hn, hlen, -⟩ := flowOk_parts h.flow
  have hxb := flow_getD h.flow
  obtain ⟨-, a0, a1, b0, b1, hab⟩ := ends_parts h.ends
  intro v hv hvb
  rcases hq : nextP ps xs v with _ | q
  · exfalso
    have hno := range_none.1 hq
    obtain ⟨h1, h2⟩ := exc_ge v ps xs hlen (fun i => (hxb i).1) (fun i hi e => by
      have := hno i hi
      simp only [openP, Bool.and_eq_false_iff, decide_eq_false_iff_not] at this
      have hb := hxb i
      rcases this with h | h
      · exact absurd e h
      · omega)
    by_cases hva : v = a
    · subst hva
      have := two_exc h.ends h.two
      rw [h.left] at this
      omega
    · rcases hv with e | ⟨k, hk, hk2, hk3⟩
      · exact hva e
      · have e : (ps.getD k zeroPp) = ps[k] := by simp [List.getD_eq_getElem?_getD, hk]
        obtain ⟨-, -, p0, p1, -⟩ := pipeOk_parts ((netOk_parts hn).2.2.2 ps[k] (List.getElem_mem hk))
        rw [← e, hk2] at p0 p1
        have hz := h.two v p0 p1 hva hvb
        have := h2 k hk hk2
        omega
  · exact ⟨q, rfl⟩

/-- a walk that does not close comes to the end -/
theorem go_thread (hn0 : 0 ≤ n) (hn : n ≤ 5) (hr : ∀ p ∈ ps, 0 ≤ p.to ∧ p.to < n) (hnext : ∀ v, comeTo ps xs a v → v ≠ c → ∃ q, nextP ps xs v = some q) : ∀ (f : Nat) (nodes : List Int) (walk : List Nat), walkSt n ps xs nodes walk → linkW ps nodes walk → nodes.getD 0 0 = a → f + walk.length = 6 → comeTo ps xs a (nodes.getLastD 0) → nodes.getLastD 0 ≠ c → (goP ps xs c f nodes walk).2 < 0 →
    (goP ps xs c f nodes walk).1 ≠ [] ∧ linkN ps (goP ps xs c f nodes walk).1 ∧ (ps.getD ((goP ps xs c f nodes walk).1.getD 0 0) zeroPp).fr = a ∧ (ps.getD ((goP ps xs c f nodes walk).1.getD ((goP ps xs c f nodes walk).1.length - 1) 0) zeroPp).to = c := by
  intro f
  induction f with
  | zero =>
    intro nodes walk h _ _ hf _ _ _
    have := h.few hn0
    have := h.1
    omega
  | succ f ih =>
    intro nodes walk h hl h0 hf hla hlc hneg
    obtain ⟨k, hk⟩ := hnext _ hla hlc
    have hW := h.1
    have hfr := h.fr' hk
    have hkl := (next_parts hk).1
    have e : (ps.getD k zeroPp) = ps[k] := by simp [List.getD_eq_getElem?_getD, hkl]
    have hp := hr ps[k] (List.getElem_mem hkl)
    by_cases hm : (ps.getD k zeroPp).to ∈ nodes
    · rw [go_close hk hm] at hneg
      simp only at hneg
      omega
    · by_cases hc : (ps.getD k zeroPp).to = c
      · rw [go_end hk hm hc]
        have hfrs : ∀ i, i < walk.length + 1 → (ps.getD ((walk ++ [k]).getD i 0) zeroPp).fr = nodes.getD i 0 := by
          intro i hi
          rw [← hfr, getD_map (g := fun k => (ps.getD k zeroPp).fr) (by simp; omega)]
        refine ⟨by simp, fun i hi => ?_, by rw [hfrs 0 (by omega)]; exact h0, ?_⟩
        · have hi2 : i + 1 < walk.length + 1 := by simpa using hi
          show (ps.getD ((walk ++ [k]).getD (i + 1) 0) zeroPp).fr = (ps.getD ((walk ++ [k]).getD i 0) zeroPp).to
          rw [hfrs (i + 1) hi2, getD_left (by omega : i < walk.length), ← hl i (by omega)]
        · show (ps.getD ((walk ++ [k]).getD ((walk ++ [k]).length - 1) 0) zeroPp).to = c
          rw [List.length_append, List.length_singleton, Nat.add_sub_cancel, getD_last]
          exact hc
      · rw [go_on hk hm hc] at hneg ⊢
        refine ih _ _ (h.on hk hm (by rw [e]; exact hp.1) (by rw [e]; exact hp.2)) (fun i hi => ?_) ?_ (by rw [List.length_append, List.length_singleton]; omega) ?_ ?_ hneg
        · rw [List.length_append, List.length_singleton] at hi
          by_cases hiw : i < walk.length
          · rw [getD_left (by omega : i + 1 < nodes.length), getD_left hiw]
            exact hl i hiw
          · obtain rfl : i = walk.length := by omega
            rw [getD_last, show walk.length + 1 = nodes.length by omega, getD_last]
        · rw [getD_left (by omega : 0 < nodes.length)]; exact h0
        · rw [List.getLastD_concat]
          exact .inr ⟨k, hkl, rfl, (next_parts hk).2.2⟩
        · rw [List.getLastD_concat]; exact hc

theorem less_le (hl : xs.length = ps.length) (hb : ∀ i, 0 ≤ xs.getD i 0 ∧ xs.getD i 0 ≤ 40) (hnd : l.Nodup) (hop : ∀ q ∈ l, q < ps.length ∧ 0 < xs.getD q 0) (d0 : 0 ≤ d) (d1 : d ≤ leastP xs l) :
    (∀ i, 0 ≤ (lessP d xs l).getD i 0 ∧ (lessP d xs l).getD i 0 ≤ xs.getD i 0) ∧ posN (lessP d xs l) ≤ posN xs := by
  have hat := less_at d l xs hnd (fun k hk => by rw [hl]; exact (hop k hk).1)
  have key : ∀ i, 0 ≤ (lessP d xs l).getD i 0 ∧ (lessP d xs l).getD i 0 ≤ xs.getD i 0 := by
    intro i
    have hbi := hb i
    rw [hat i]
    by_cases hi : i ∈ l
    · rw [if_pos hi]
      have := (leastF (xs := xs) l 40).2.1 i hi
      unfold leastP at d1
      omega
    · rw [if_neg hi]; omega
  refine ⟨key, ?_⟩
  unfold posN
  rw [less_len]
  refine List.countP_mono_left fun x _ hx => ?_
  have h1 := key x
  have h2 := of_decide_eq_true hx
  exact decide_eq_true (by omega)

theorem rings_few8 {ps : List Pp} : ∀ (f : Nat) (xs : List Int), (ringsP ps f xs).length ≤ f := by
  intro f
  induction f with
  | zero => intro xs; simp [ringsP]
  | succ f ih =>
    intro xs
    rcases hk : firstP xs with _ | k
    · rw [ringsP, hk]; simp
    · rw [rings_on hk]
      have := ih (lessP (leastP xs (ringP ps xs k)) xs (ringP ps xs k))
      simp; omega
/-- how often a part may still be taken out -/
def leftN2 (xs : List Int) (left : Int) : Nat := posN xs + (if 0 < left then 1 else 0)

theorem PartSt.step (h : PartSt n ps xs a b left) (h0 : 0 < left) :
    partP ps xs a b ≠ [] ∧ (partP ps xs a b).Nodup ∧ (∀ q ∈ partP ps xs a b, q < ps.length ∧ 0 < xs.getD q 0) ∧ (partP ps xs a b).length ≤ 6 ∧ 0 < partD ps xs a b left ∧ partD ps xs a b left ≤ 40 ∧ 0 ≤ partL ps xs a b left ∧
      PartSt n ps (lessP (partD ps xs a b left) xs (partP ps xs a b)) a b (partL ps xs a b left) ∧ leftN2 (lessP (partD ps xs a b left) xs (partP ps xs a b)) (partL ps xs a b left) < leftN2 xs left := by
  obtain ⟨hn, hlen, -⟩ := flowOk_parts h.flow
  have hxb := flow_getD h.flow
  obtain ⟨-, a0, a1, b0, b1, hab⟩ := ends_parts h.ends
  obtain ⟨n2, n5, -, hpo⟩ := netOk_parts hn
  have hr : ∀ p ∈ ps, 0 ≤ p.to ∧ p.to < n := fun p hp => by obtain ⟨-, -, p2, p3, -⟩ := pipeOk_parts (hpo p hp); exact ⟨p2, p3⟩
  have hst : walkSt n ps xs [a] [] := walk_start a0 a1
  have hlw : linkW ps [a] [] := fun i hi => absurd hi (by simp)
  have hend : walkEnd ps xs (walkP ps xs a b) := go_ends hr n5 (by omega) 6 _ _ hst
  obtain ⟨hnd, hop, h2, h6⟩ := hend
  have hwnd : (walkP ps xs a b).1.Nodup := List.Pairwise.of_map _ (fun x y hxy e => hxy (by rw [e])) hnd
  have hpd : (partP ps xs a b).Nodup := hwnd.sublist (List.drop_sublist _ _)
  have hpo2 : ∀ q ∈ partP ps xs a b, q < ps.length ∧ 0 < xs.getD q 0 := fun q hq => hop q (List.mem_of_mem_drop hq)
  have hp6 : (partP ps xs a b).length ≤ 6 := by
    unfold partP
    rw [List.length_drop]; omega
  obtain ⟨q0, hq0⟩ := h.next h0 a (.inl rfl) hab
  have hw1 : (walkP ps xs a b).1 ≠ [] := go_some hq0
  have hmk : ∀ ys : List Int, ys.length = xs.length → (∀ i, 0 ≤ ys.getD i 0 ∧ ys.getD i 0 ≤ xs.getD i 0) → flowOkB n ps ys = true := by
    intro ys hy hyb
    simp only [flowOkB, Bool.and_eq_true, decide_eq_true_eq, List.all_eq_true]
    refine ⟨⟨hn, by rw [hy, hlen]⟩, fun x hxm => ?_⟩
    obtain ⟨i, hi, rfl⟩ := List.getElem_of_mem hxm
    have h1 := hyb i
    rw [getD_at hi] at h1
    have h2 := hxb i
    simp only [withinB, Bool.and_eq_true, decide_eq_true_eq]
    omega
  by_cases hcl : 0 ≤ (walkP ps xs a b).2
  · have hne : partP ps xs a b ≠ [] := by
      have h3 : (walkP ps xs a b).2 < (walkP ps xs a b).1.length := by
        rcases h2 with h2 | h2
        · omega
        · exact h2.2
      unfold partP
      intro e
      have := congrArg List.length e
      rw [List.length_drop] at this
      simp at this
      omega
    have hD : partD ps xs a b left = leastP xs (partP ps xs a b) := by rw [partD, if_pos hcl]
    have hL : partL ps xs a b left = left := by rw [partL, if_pos hcl]
    obtain ⟨l1, l2, l3, l4⟩ := ring_less hlen hxb hne hpd hpo2
    have hclosed : closedN ps (partP ps xs a b) := go_closed 6 _ _ hst hlw hr hcl
    rw [hD, hL]
    refine ⟨hne, hpd, hpo2, hp6, l1, l2, by omega, ⟨hmk _ (less_len _ _ _) l3, h.ends, fun v v0 v1 ha hb => ?_, ?_⟩, ?_⟩
    · rw [less_exc hn hlen hne (fun q hq => (hpo2 q hq).1) hclosed]; exact h.two v v0 v1 ha hb
    · rw [less_exc hn hlen hne (fun q hq => (hpo2 q hq).1) hclosed]; exact h.left
    · unfold leftN2; omega
  · have hneg : (walkP ps xs a b).2 = -1 := by
      rcases h2 with h2 | h2
      · exact h2
      · exact absurd h2.1 hcl
    have hP : partP ps xs a b = (walkP ps xs a b).1 := by unfold partP; rw [hneg]; simp
    have hne : partP ps xs a b ≠ [] := by rw [hP]; exact hw1
    obtain ⟨-, t2, t3, t4⟩ := go_thread (n := n) (c := b) (by omega) n5 hr (h.next h0) 6 _ _ hst hlw rfl rfl (.inl rfl) hab (by have := hneg; unfold walkP at this; omega)
    have hD : partD ps xs a b left = min (leastP xs (partP ps xs a b)) left := by rw [partD, if_neg hcl]
    have hL : partL ps xs a b left = left - partD ps xs a b left := by rw [partL, if_neg hcl]
    obtain ⟨l1, l2, l3, l4⟩ := ring_less hlen hxb hne hpd hpo2
    obtain ⟨e1, e2⟩ := less_le (d := partD ps xs a b left) hlen hxb hpd hpo2 (by omega) (by omega)
    have hexc : ∀ v, exc v ps (lessP (partD ps xs a b left) xs (partP ps xs a b)) = exc v ps xs + (if v = b then -partD ps xs a b left else 0) - (if v = a then -partD ps xs a b left else 0) := by
      intro v
      have hch : chain ps a b ((partP ps xs a b).map (2 * ·)) := by
        rw [hP]
        rcases hw : (walkP ps xs a b).1 with _ | ⟨q, l⟩
        · exact absurd hw hw1
        · have hall : ∀ k ∈ q :: l, k < ps.length := fun k hk => (hop k (by rw [hw]; exact hk)).1
          have w2 : linkN ps (q :: l) := by rw [← hw]; exact t2
          have w3 : (ps.getD q zeroPp).fr = a := by
            have := t3
            change (ps.getD ((walkP ps xs a b).1.getD 0 0) zeroPp).fr = a at this
            rw [hw] at this
            exact this
          have w4 : (ps.getD ((q :: l).getD l.length 0) zeroPp).to = b := by
            have := t4
            change (ps.getD ((walkP ps xs a b).1.getD ((walkP ps xs a b).1.length - 1) 0) zeroPp).to = b at this
            rw [hw] at this
            exact this
          have := chain_N l q hall w2
          rw [w3, w4] at this
          exact this
      rw [less_push, exc_pushL hn hlen hch]
    refine ⟨hne, hpd, hpo2, hp6, by omega, by omega, by omega, ⟨hmk _ (less_len _ _ _) e1, h.ends, fun v v0 v1 ha hb => ?_, ?_⟩, ?_⟩
    · rw [hexc v, if_neg hb, if_neg ha, h.two v v0 v1 ha hb]; omega
    · rw [hexc b, if_pos rfl, if_neg (fun e => hab e.symm), h.left, hL]; omega
    · unfold leftN2
      by_cases hm : leastP xs (partP ps xs a b) ≤ left
      · have hD2 : partD ps xs a b left = leastP xs (partP ps xs a b) := by rw [hD]; omega
        rw [hL, hD2, if_pos h0]
        split <;> omega
      · have hD2 : partD ps xs a b left = left := by rw [hD]; omega
        rw [hL, hD2, if_pos h0, if_neg (by omega)]
        rw [hD2] at e2
        omega

theorem PartSt.done (h : PartSt n ps xs a b left) (h0 : ¬ 0 < left) (h1 : 0 ≤ left) : balB n ps xs = true := by
  have e : left = 0 := by omega
  have hb := h.left
  have ha := two_exc h.ends h.two
  simp only [balB, Bool.and_eq_true, List.all_eq_true, beq_iff_eq]
  refine ⟨h.flow, fun k hk => ?_⟩
  have hk := List.mem_range.1 hk
  by_cases h1 : (k : Int) = a
  · rw [h1, ha]; omega
  · by_cases h2 : (k : Int) = b
    · rw [h2, hb, e]
    · exact h.two _ (by omega) (by omega) h1 h2
end

end Go.Proofs.YtmgpekdhcghabaaGreat
