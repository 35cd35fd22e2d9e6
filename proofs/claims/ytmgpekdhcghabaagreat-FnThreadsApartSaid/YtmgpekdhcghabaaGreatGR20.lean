/- Plain facts. -/
import Derived.Test.YtmgpekdhcghabaaGreatGR15
/- Contracts of the functions of chapter 4 in the model: RingsOf. -/
namespace Go.Proofs.YtmgpekdhcghabaaGreat
open Go.RowKit

theorem flow_getD {n : Int} {ps : List Pp} {xs : List Int} (h : flowOkB n ps xs = true) (i : Nat) : 0 ≤ xs.getD i 0 ∧ xs.getD i 0 ≤ 40 := by
  obtain ⟨-, -, hb⟩ := flowOk_parts h
  by_cases hi : i < xs.length
  · rw [getD_at hi]; exact hb _ (List.getElem_mem hi)
  · have : xs.getD i 0 = 0 := by simp [List.getD_eq_getElem?_getD, show xs.length ≤ i by omega]
    omega
theorem bal_flow {n : Int} {ps : List Pp} {xs : List Int} (h : balB n ps xs = true) : flowOkB n ps xs = true := by
  simp only [balB, Bool.and_eq_true] at h; exact h.1

end Go.Proofs.YtmgpekdhcghabaaGreat

/- Plain facts of chapter 4: in a balanced flow a walk goes on until it closes. -/
namespace Go.Proofs.YtmgpekdhcghabaaGreat
open Go.RowKit

theorem exc_ge (v : Int) : ∀ (ps : List Pp) (xs : List Int), xs.length = ps.length → (∀ i, 0 ≤ xs.getD i 0) → (∀ i, i < ps.length → (ps.getD i zeroPp).fr = v → xs.getD i 0 = 0) → 0 ≤ exc v ps xs ∧ ∀ k, k < ps.length → (ps.getD k zeroPp).to = v → xs.getD k 0 ≤ exc v ps xs := by
  intro ps
  induction ps with
  | nil => intro xs _ _ _; rw [exc_nil1]; exact ⟨Int.le_refl _, fun k hk => absurd hk (by simp)⟩
  | cons p ps ih =>
    intro xs hl h0 hf
    cases xs with
    | nil => simp at hl
    | cons x xs =>
      have hx : 0 ≤ x := h0 0
      have hfx : p.fr = v → x = 0 := fun e => hf 0 (by simp) e
      obtain ⟨i1, i2⟩ := ih xs (by simpa using hl) (fun i => h0 (i + 1)) (fun i hi e => hf (i + 1) (by simp; omega) e)
      rw [exc_cons]
      have hT : 0 ≤ excT v p x ∧ (p.to = v → x ≤ excT v p x) := by
        unfold excT
        by_cases h1 : p.fr = v
        · have := hfx h1
          subst this
          constructor
          · repeat' split
            all_goals omega
          · intro _
            repeat' split
            all_goals omega
        · have h1' : ¬ v = p.fr := fun e => h1 e.symm
          constructor
          · repeat' split
            all_goals omega
          · intro h2
            repeat' split
            all_goals omega
      refine ⟨by omega, fun k hk hk2 => ?_⟩
      rcases k with _ | k
      · have := hT.2 hk2
        show x ≤ _
        omega
      · have := i2 k (by simpa using hk) hk2
        show xs.getD k 0 ≤ _
        omega

theorem bal_next {n : Int} {ps : List Pp} {xs : List Int} {v : Int} (h : balB n ps xs = true) (v0 : 0 ≤ v) (v1 : v < n) (hin : ∃ k, k < ps.length ∧ (ps.getD k zeroPp).to = v ∧ 0 < xs.getD k 0) : ∃ q, nextP ps xs v = some q := by
  have hfl := bal_flow h
  obtain ⟨hn, hlen, -⟩ := flowOk_parts hfl
  rcases hq : nextP ps xs v with _ | q
  · exfalso
    have hno := range_none.1 hq
    have hxb := flow_getD hfl
    obtain ⟨k, hk, hk2, hk3⟩ := hin
    have h0 : exc v ps xs = 0 := by
      simp only [balB, Bool.and_eq_true, List.all_eq_true, beq_iff_eq] at h
      have := h.2 v.toNat (List.mem_range.2 (by omega))
      rwa [show ((v.toNat : Nat) : Int) = v by omega] at this
    obtain ⟨-, h2⟩ := exc_ge v ps xs hlen (fun i => (hxb i).1) (fun i hi e => by
      have := hno i hi
      simp only [openP, Bool.and_eq_false_iff, decide_eq_false_iff_not] at this
      have hb := hxb i
      rcases this with h | h
      · exact absurd e h
      · omega)
    have := h2 k hk hk2
    omega
  · exact ⟨q, rfl⟩

end Go.Proofs.YtmgpekdhcghabaaGreat

/- Plain facts of chapter 4: the ring that a walk closes is closed, and what is left without it is balanced. -/
namespace Go.Proofs.YtmgpekdhcghabaaGreat
open Go.RowKit

section
variable {n a c v d : Int} {ps : List Pp} {xs : List Int} {nodes : List Int} {walk l : List Nat} {k f : Nat}

/-- each pipe leads to the next node -/
def linkW (ps : List Pp) (nodes : List Int) (walk : List Nat) : Prop := ∀ i, i < walk.length → nodes.getD (i + 1) 0 = (ps.getD (walk.getD i 0) zeroPp).to
/-- pipes one behind the other -/
def linkN (ps : List Pp) (l : List Nat) : Prop := ∀ i, i + 1 < l.length → (ps.getD (l.getD (i + 1) 0) zeroPp).fr = (ps.getD (l.getD i 0) zeroPp).to
def closedN (ps : List Pp) (l : List Nat) : Prop := linkN ps l ∧ (ps.getD (l.getD (l.length - 1) 0) zeroPp).to = (ps.getD (l.getD 0 0) zeroPp).fr

theorem getD_left {α : Type} {l m : List α} {i : Nat} {d : α} (h : i < l.length) : (l ++ m).getD i d = l.getD i d := by
  simp only [List.getD_eq_getElem?_getD]
  rw [List.getElem?_append_left h]
theorem getD_last {α : Type} {l : List α} {x d : α} : (l ++ [x]).getD l.length d = x := by
  simp [List.getD_eq_getElem?_getD]
theorem getD_map {l : List Nat} {g : Nat → Int} {i : Nat} (h : i < l.length) : (l.map g).getD i 0 = g (l.getD i 0) := by
  simp [List.getD_eq_getElem?_getD, h]
theorem getD_dropN {l : List Nat} {i j : Nat} : (l.drop j).getD i 0 = l.getD (j + i) 0 := by
  simp [List.getD_eq_getElem?_getD]

theorem go_closed : ∀ (f : Nat) (nodes : List Int) (walk : List Nat), walkSt n ps xs nodes walk → linkW ps nodes walk → (∀ p ∈ ps, 0 ≤ p.to ∧ p.to < n) → 0 ≤ (goP ps xs c f nodes walk).2 → closedN ps ((goP ps xs c f nodes walk).1.drop (goP ps xs c f nodes walk).2.toNat) := by
  intro f
  induction f with
  | zero => intro nodes walk _ _ _ h; simp [goP] at h
  | succ f ih =>
    intro nodes walk h hl hr h0
    rcases hk : nextP ps xs (nodes.getLastD 0) with _ | k
    · rw [go_none hk] at h0; simp at h0
    · have hW := h.1
      have hfr := h.fr' hk
      by_cases hm : (ps.getD k zeroPp).to ∈ nodes
      · rw [go_close hk hm]
        obtain ⟨j, hj⟩ : ∃ j, nodes.idxOf (ps.getD k zeroPp).to = j := ⟨_, rfl⟩
        have hjl : j < nodes.length := by rw [← hj]; exact List.idxOf_lt_length_iff.2 hm
        have hjv : nodes.getD (nodes.idxOf (ps.getD k zeroPp).to) 0 = (ps.getD k zeroPp).to := by
          rw [getD_at (List.idxOf_lt_length_iff.2 hm)]
          exact List.getElem_idxOf _
        rw [hj] at hjv
        rw [hj]
        simp only [Int.toNat_natCast]
        have hfrs : ∀ i, i < walk.length + 1 → (ps.getD ((walk ++ [k]).getD i 0) zeroPp).fr = nodes.getD i 0 := by
          intro i hi
          rw [← hfr, getD_map (g := fun k => (ps.getD k zeroPp).fr) (by simp; omega)]
        have hlen : ((walk ++ [k]).drop j).length = walk.length + 1 - j := by simp
        refine ⟨fun i hi => ?_, ?_⟩
        · rw [hlen] at hi
          rw [getD_dropN, getD_dropN, hfrs (j + (i + 1)) (by omega), getD_left (by omega : j + i < walk.length), ← hl (j + i) (by omega)]
          rfl
        · rw [hlen, getD_dropN, getD_dropN, hfrs (j + 0) (by omega), show j + (walk.length + 1 - j - 1) = walk.length by omega, getD_last]
          exact hjv.symm
      · by_cases hc : (ps.getD k zeroPp).to = c
        · rw [go_end hk hm hc] at h0; simp at h0
        · rw [go_on hk hm hc] at h0 ⊢
          have hkl := (next_parts hk).1
          have e : (ps.getD k zeroPp) = ps[k] := by simp [List.getD_eq_getElem?_getD, hkl]
          have hp := hr ps[k] (List.getElem_mem hkl)
          refine ih _ _ (h.on hk hm (by rw [e]; exact hp.1) (by rw [e]; exact hp.2)) (fun i hi => ?_) hr h0
          rw [List.length_append, List.length_singleton] at hi
          by_cases hiw : i < walk.length
          · rw [getD_left (by omega : i + 1 < nodes.length), getD_left hiw]
            exact hl i hiw
          · obtain rfl : i = walk.length := by omega
            rw [getD_last, show walk.length + 1 = nodes.length by omega, getD_last]

theorem chain_N : ∀ (l : List Nat) (q : Nat), (∀ k ∈ q :: l, k < ps.length) → linkN ps (q :: l) → chain ps (ps.getD q zeroPp).fr (ps.getD ((q :: l).getD l.length 0) zeroPp).to ((q :: l).map (2 * ·)) := by
  intro l
  induction l with
  | nil =>
    intro q hq _
    have hk := hq q (by simp)
    refine ⟨by show 2 * q < 2 * ps.length; omega, ?_, ?_⟩
    · simp [stFr]
    · show stTo ps (2 * q) = _
      simp [stTo]
  | cons r l ih =>
    intro q hq hl
    have hk := hq q (by simp)
    have h0 := hl 0 (by simp)
    have := ih r (fun k hk => hq k (by simp at hk ⊢; exact .inr hk)) (fun i hi => hl (i + 1) (by simpa using hi))
    refine ⟨by show 2 * q < 2 * ps.length; omega, by simp [stFr], ?_⟩
    have e : stTo ps (2 * q) = (ps.getD r zeroPp).fr := by
      have h1 : (ps.getD r zeroPp).fr = (ps.getD q zeroPp).to := h0
      rw [h1]
      simp [stTo]
    show chain ps (stTo ps (2 * q)) _ _
    rw [e]
    exact this

theorem less_push : ∀ (l : List Nat) (xs : List Int), lessP d xs l = pushL (-d) xs (l.map (2 * ·)) := by
  intro l
  induction l with
  | nil => intro xs; rfl
  | cons q l ih =>
    intro xs
    have e : lessP d xs (q :: l) = lessP d (xs.set q (xs.getD q 0 - d)) l := rfl
    have e2 : push1 (-d) xs (2 * q) = xs.set q (xs.getD q 0 - d) := by
      rw [push1, if_neg (by omega), show 2 * q / 2 = q by omega, Int.sub_eq_add_neg]
    rw [e, ih, List.map_cons, pushL, pushL, List.foldl_cons, e2]

/-- what is left without a closed ring has the same excesses -/
theorem less_exc (hn : netOkB n ps = true) (hlen : xs.length = ps.length) (hne : l ≠ []) (hl : ∀ k ∈ l, k < ps.length) (hc : closedN ps l) (v : Int) : exc v ps (lessP d xs l) = exc v ps xs := by
  cases l with
  | nil => exact absurd rfl hne
  | cons q l =>
    have h1 := chain_N l q hl hc.1
    have h2 : (ps.getD ((q :: l).getD l.length 0) zeroPp).to = (ps.getD q zeroPp).fr := hc.2
    rw [h2] at h1
    rw [less_push, exc_pushL hn hlen h1]
    omega
end

end Go.Proofs.YtmgpekdhcghabaaGreat
