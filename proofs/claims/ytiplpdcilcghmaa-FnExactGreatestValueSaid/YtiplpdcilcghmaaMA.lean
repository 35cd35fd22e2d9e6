/- Plain facts, chapter 3: in how few steps one comes from node to node, over any row of edges. -/
import Derived.Test.YtiplpdcilcghmaaM9
namespace Go.Proofs.Ytiplpdcilcghmaa
open Go.RowKit

/-- in at most so many edges one comes from one node to another one -/
def inK (E : List (Int × Int)) : Nat → Int → Int → Bool
  | 0, v, c => decide (v = c)
  | k + 1, v, c => inK E k v c || E.any fun e => decide (e.1 = v) && inK E k e.2 c

section
variable {E : List (Int × Int)} {n : Nat} {c v : Int}

theorem inK_succ {k : Nat} : inK E (k + 1) v c = true ↔ inK E k v c = true ∨ ∃ e ∈ E, e.1 = v ∧ inK E k e.2 c = true := by
  simp [inK]
theorem inK_up {k : Nat} (h : inK E k v c = true) : inK E (k + 1) v c = true := inK_succ.2 (.inl h)
theorem inK_mono {k j : Nat} (hkj : k ≤ j) (h : inK E k v c = true) : inK E j v c = true := by
  obtain ⟨d, rfl⟩ : ∃ d, j = k + d := ⟨j - k, by omega⟩
  clear hkj
  induction d with
  | zero => exact h
  | succ d ih => exact inK_up ih
theorem inK_self (k : Nat) : inK E k c c = true := inK_mono (Nat.zero_le k) (by simp [inK])
theorem inK_trans {i j : Nat} {a b d : Int} (h1 : inK E i a b = true) (h2 : inK E j b d = true) : inK E (i + j) a d = true := by
  induction i generalizing a with
  | zero =>
    have : a = b := by simpa [inK] using h1
    subst this; simpa using h2
  | succ i ih =>
    have e : i + 1 + j = i + j + 1 := by omega
    rw [e]
    rcases inK_succ.1 h1 with h | ⟨x, hx, rfl, h⟩
    · exact inK_up (ih h)
    · exact inK_succ.2 (.inr ⟨x, hx, rfl, ih h⟩)
theorem inK_edge {e : Int × Int} (he : e ∈ E) : inK E 1 e.1 e.2 = true := inK_succ.2 (.inr ⟨e, he, rfl, by simp [inK]⟩)
theorem inK_snoc {k : Nat} {e : Int × Int} (h : inK E k v e.1 = true) (he : e ∈ E) : inK E (k + 1) v e.2 = true := inK_trans h (inK_edge he)
/-- the last edge of the way -/
theorem inK_last {k : Nat} (h : inK E (k + 1) v c = true) : inK E k v c = true ∨ ∃ e ∈ E, e.2 = c ∧ inK E k v e.1 = true := by
  induction k generalizing v with
  | zero =>
    rcases inK_succ.1 h with g | ⟨e, he, hv, g⟩
    · exact .inl g
    · exact .inr ⟨e, he, by simpa [inK] using g, by simp [inK, hv]⟩
  | succ k ih =>
    rcases inK_succ.1 h with g | ⟨e, he, hv, g⟩
    · exact .inl g
    · rcases ih g with g | ⟨x, hx, hc, g⟩
      · exact .inl (inK_succ.2 (.inr ⟨e, he, hv, g⟩))
      · exact .inr ⟨x, hx, hc, inK_succ.2 (.inr ⟨e, he, hv, g⟩)⟩

/-- all edges lie among so many nodes -/
def edgesIn (n : Nat) (E : List (Int × Int)) : Prop := ∀ e ∈ E, (0 ≤ e.1 ∧ e.1 < n) ∧ (0 ≤ e.2 ∧ e.2 < n)

theorem inK_in {k : Nat} (hE : edgesIn n E) (hc : 0 ≤ c ∧ c < n) (h : inK E k v c = true) : 0 ≤ v ∧ v < n := by
  cases k with
  | zero =>
    have : v = c := by simpa [inK] using h
    subst this; exact hc
  | succ k =>
    induction k with
    | zero =>
      rcases inK_succ.1 h with h | ⟨e, he, rfl, h⟩
      · have : v = c := by simpa [inK] using h
        subst this; exact hc
      · exact (hE e he).1
    | succ k ih =>
      rcases inK_succ.1 h with h | ⟨e, he, rfl, h⟩
      · exact ih h
      · exact (hE e he).1

theorem countP_lt {α : Type} {p q : α → Bool} {l : List α} (h : ∀ x ∈ l, p x = true → q x = true) {y : α} (hy : y ∈ l) (h1 : p y = false) (h2 : q y = true) : l.countP p < l.countP q := by
  induction l with
  | nil => simp at hy
  | cons a l ih =>
    have hm : l.countP p ≤ l.countP q := List.countP_mono_left fun x hx => h x (by simp [hx])
    rw [List.countP_cons, List.countP_cons]
    rcases List.mem_cons.1 hy with rfl | hy
    · simp [h1, h2]; omega
    · have := ih (fun x hx => h x (by simp [hx])) hy
      have ha := h a (by simp)
      by_cases hp : p a = true
      · simp [hp, ha hp]; omega
      · simp [hp]; omega

theorem inK_stable {k : Nat} (h : ∀ v, inK E (k + 1) v c = true → inK E k v c = true) (m : Nat) (v : Int) (hv : inK E (k + m) v c = true) : inK E k v c = true := by
  induction m generalizing v with
  | zero => exact hv
  | succ m ih =>
    have e : k + (m + 1) = k + m + 1 := by omega
    rw [e] at hv
    rcases inK_succ.1 hv with hv | ⟨x, hx, hxv, hg⟩
    · exact ih v hv
    · exact h _ (inK_succ.2 (.inr ⟨x, hx, hxv, ih _ hg⟩))

theorem inK_grow (hc : 0 ≤ c ∧ c < n) (hE : edgesIn n E) (k : Nat) : k + 1 ≤ (List.range n).countP (fun v : Nat => inK E k v c) ∨ ∀ v, inK E (k + 1) v c = true → inK E k v c = true := by
  induction k with
  | zero =>
    left
    have : 0 < (List.range n).countP (fun v : Nat => inK E 0 v c) := List.countP_pos_iff.2 ⟨c.toNat, by simp; omega, by simp [inK]; omega⟩
    omega
  | succ k ih =>
    rcases ih with ih | ih
    · by_cases hs : ∀ v, inK E (k + 1) v c = true → inK E k v c = true
      · right
        intro v hv
        exact inK_up (inK_stable hs 2 v hv)
      · left
        have : ∃ v, inK E (k + 1) v c = true ∧ inK E k v c = false := by
          apply Classical.byContradiction
          intro hn
          apply hs
          intro v hv
          apply Classical.byContradiction
          intro h2
          exact hn ⟨v, hv, by simpa using h2⟩
        obtain ⟨v, h1, h2⟩ := this
        have hin := inK_in hE hc h1
        have hv : ((v.toNat : Nat) : Int) = v := by omega
        have := countP_lt (p := fun v : Nat => inK E k v c) (q := fun v : Nat => inK E (k + 1) v c) (l := List.range n) (fun x _ hx => inK_up hx) (y := v.toNat) (by simp; omega) (by simp only [hv]; exact h2) (by simp only [hv]; exact h1)
        omega
    · right
      intro v hv
      exact inK_up (inK_stable ih 2 v hv)

theorem inK_all (hc : 0 ≤ c ∧ c < n) (hE : edgesIn n E) {m : Nat} (h : inK E m v c = true) : inK E (n - 1) v c = true := by
  have hst : ∀ v, inK E (n - 1 + 1) v c = true → inK E (n - 1) v c = true := by
    rcases inK_grow hc hE (n - 1) with hg | hg
    · intro v hv
      have hin := inK_in hE hc hv
      have hlen : (List.range n).countP (fun v : Nat => inK E (n - 1) v c) = (List.range n).length := by
        have := List.countP_le_length (p := fun v : Nat => inK E (n - 1) v c) (l := List.range n)
        simp at this ⊢; omega
      have := List.countP_eq_length.1 hlen v.toNat (by simp; omega)
      have hv' : ((v.toNat : Nat) : Int) = v := by omega
      simpa [hv'] using this
    · exact hg
  by_cases hm : m ≤ n - 1
  · exact inK_mono hm h
  · have e : m = n - 1 + (m - (n - 1)) := by omega
    rw [e] at h
    exact inK_stable hst _ _ h

/-- how few edges lead there; the number of nodes if there is no way -/
def dst (E : List (Int × Int)) (n : Nat) (v c : Int) : Nat := ((List.range n).find? fun k => inK E k v c).getD n

theorem dst_le_n : dst E n v c ≤ n := by
  unfold dst
  cases h : (List.range n).find? fun k => inK E k v c with
  | none => simp
  | some k => have := List.mem_of_find?_eq_some h; simp at this; simp; omega
theorem dst_le {k : Nat} (hk : k < n) : dst E n v c ≤ k ↔ inK E k v c = true := by
  unfold dst
  cases h : (List.range n).find? fun k => inK E k v c with
  | none =>
    have := List.find?_eq_none.1 h k (by simpa using hk)
    simp; constructor
    · omega
    · intro h2; exact absurd h2 this
  | some j =>
    have h1 := List.find?_some h
    have hj : ∀ i, i < j → inK E i v c = false := by
      obtain ⟨-, -, h3⟩ := List.find?_range_eq_some.1 h
      intro i hi
      simpa using h3 i hi
    simp
    constructor
    · intro hjk; exact inK_mono hjk h1
    · intro h2
      apply Nat.le_of_not_lt
      intro hlt
      rw [hj k hlt] at h2; cases h2
theorem dst_at (h : dst E n v c < n) : inK E (dst E n v c) v c = true := (dst_le h).1 (Nat.le_refl _)
theorem dst_none (hc : 0 ≤ c ∧ c < n) (hE : edgesIn n E) : dst E n v c = n ↔ ∀ m, inK E m v c = false := by
  constructor
  · intro h m
    apply Classical.byContradiction
    intro hm
    have hm' : inK E m v c = true := by simpa using hm
    have := (dst_le (E := E) (v := v) (c := c) (show n - 1 < n by omega)).2 (inK_all hc hE hm')
    omega
  · intro h
    apply Classical.byContradiction
    intro hn
    have h1 := dst_at (E := E) (n := n) (v := v) (c := c) (by have := dst_le_n (E := E) (n := n) (v := v) (c := c); omega)
    rw [h] at h1; cases h1
theorem dst_self (hn : 0 < n) : dst E n c c = 0 := Nat.le_zero.1 ((dst_le hn).2 (inK_self 0))
theorem dst_zero (hn : 0 < n) (h : dst E n v c = 0) : v = c := by
  have := (dst_le (E := E) (v := v) (c := c) hn).1 (by omega)
  simpa [inK] using this
theorem dst_edge {e : Int × Int} (he : e ∈ E) : dst E n e.1 c ≤ dst E n e.2 c + 1 := by
  by_cases h : dst E n e.2 c + 1 < n
  · exact (dst_le h).2 (inK_succ.2 (.inr ⟨e, he, rfl, dst_at (by omega)⟩))
  · have := dst_le_n (E := E) (n := n) (v := e.1) (c := c)
    omega
/-- from a node that is not the end itself some edge leads nearer -/
theorem dst_step {k : Nat} (h : dst E n v c = k + 1) (hk : k + 1 < n) : ∃ e ∈ E, e.1 = v ∧ dst E n e.2 c = k := by
  have h1 := (dst_le (E := E) (v := v) (c := c) hk).1 (by omega)
  have h0 : inK E k v c = false := by
    apply Classical.byContradiction
    intro hx
    have := (dst_le (E := E) (v := v) (c := c) (show k < n by omega)).2 (by simpa using hx)
    omega
  rcases inK_succ.1 h1 with h2 | ⟨e, he, rfl, h2⟩
  · rw [h0] at h2; cases h2
  · refine ⟨e, he, rfl, ?_⟩
    have a1 := (dst_le (E := E) (v := e.2) (c := c) (show k < n by omega)).2 h2
    have a2 := dst_edge (n := n) (c := c) he
    omega

/-- the program's rounds -/
def relax1 (L : List Int) (e : Int × Int) : List Int := L.set e.1.toNat (min (L.getD e.1.toNat 0) (L.getD e.2.toNat 0 + 1))
def relaxes (L : List Int) (E : List (Int × Int)) : List Int := E.foldl relax1 L
def leftR (E : List (Int × Int)) (L : List Int) : Nat → List Int
  | 0 => L
  | r + 1 => relaxes (leftR E L r) E
def left0 (n : Nat) (c : Int) : List Int := (List.replicate n (n : Int)).set c.toNat 0

def soundL (E : List (Int × Int)) (n : Nat) (c : Int) (L : List Int) : Prop := L.length = n ∧ ∀ v : Nat, v < n → (dst E n v c : Int) ≤ L.getD v 0 ∧ L.getD v 0 ≤ n

theorem getD_set {α : Type} (L : List α) (i j : Nat) (x d : α) (hi : i < L.length) : (L.set i x).getD j d = if i = j then x else L.getD j d := by
  simp only [List.getD_eq_getElem?_getD, List.getElem?_set]
  split
  · rename_i h; subst h; simp
  · rfl

theorem relax1_sound {L : List Int} {e : Int × Int} (hE : edgesIn n E) (he : e ∈ E) (h : soundL E n c L) : soundL E n c (relax1 L e) ∧ ∀ v : Nat, v < n → (relax1 L e).getD v 0 ≤ L.getD v 0 := by
  obtain ⟨hl, hs⟩ := h
  obtain ⟨⟨a0, a1⟩, b0, b1⟩ := hE e he
  have h1 : e.1.toNat < L.length := by omega
  have hd := dst_edge (n := n) (c := c) he
  have g1 := hs e.1.toNat (by omega)
  have g2 := hs e.2.toNat (by omega)
  have ea : ((e.1.toNat : Nat) : Int) = e.1 := by omega
  have eb : ((e.2.toNat : Nat) : Int) = e.2 := by omega
  rw [ea] at g1
  rw [eb] at g2
  refine ⟨⟨by simp [relax1, hl], fun v hv => ?_⟩, fun v hv => ?_⟩
  · have gv := hs v hv
    rw [relax1, getD_set _ _ _ _ _ h1]
    split
    · rename_i h; subst h
      rw [ea] at gv ⊢
      omega
    · exact gv
  · rw [relax1, getD_set _ _ _ _ _ h1]
    split
    · rename_i h; subst h; omega
    · exact Int.le_refl _

theorem relaxes_sound {L : List Int} {F : List (Int × Int)} (hE : edgesIn n E) (hF : ∀ e ∈ F, e ∈ E) (h : soundL E n c L) :
    soundL E n c (relaxes L F) ∧ (∀ v : Nat, v < n → (relaxes L F).getD v 0 ≤ L.getD v 0) ∧ ∀ e ∈ F, (relaxes L F).getD e.1.toNat 0 ≤ L.getD e.2.toNat 0 + 1 := by
  induction F generalizing L with
  | nil => exact ⟨h, fun _ _ => Int.le_refl _, by simp⟩
  | cons f F ih =>
    obtain ⟨s1, d1⟩ := relax1_sound hE (hF f (by simp)) h
    obtain ⟨s2, d2, c2⟩ := ih (fun e he => hF e (by simp [he])) s1
    have e0 : relaxes L (f :: F) = relaxes (relax1 L f) F := rfl
    rw [e0]
    refine ⟨s2, fun v hv => Int.le_trans (d2 v hv) (d1 v hv), ?_⟩
    intro e he
    rcases List.mem_cons.1 he with rfl | he
    · obtain ⟨⟨a0, a1⟩, b0, b1⟩ := hE e (hF e (by simp))
      have := d2 e.1.toNat (by omega)
      have h1 : e.1.toNat < L.length := by have := h.1; omega
      have h2 : (relax1 L e).getD e.1.toNat 0 ≤ L.getD e.2.toNat 0 + 1 := by
        rw [relax1, getD_set _ _ _ _ _ h1, if_pos rfl]; omega
      omega
    · obtain ⟨⟨a0, a1⟩, b0, b1⟩ := hE e (hF e (by simp [he]))
      have := c2 e he
      have := d1 e.2.toNat (by omega)
      omega

theorem left0_sound (hc : 0 ≤ c ∧ c < n) : soundL E n c (left0 n c) := by
  refine ⟨by simp [left0], fun v hv => ?_⟩
  rw [left0, getD_set _ _ _ _ _ (by simp; omega)]
  have hle := dst_le_n (E := E) (n := n) (v := v) (c := c)
  split
  · rename_i h; subst h
    have e : ((c.toNat : Nat) : Int) = c := by omega
    rw [e, dst_self (by omega)]; omega
  · simp only [List.getD_eq_getElem?_getD, List.getElem?_replicate, if_pos hv, Option.getD_some]; omega

theorem leftR_sound (hE : edgesIn n E) (hc : 0 ≤ c ∧ c < n) (r : Nat) : soundL E n c (leftR E (left0 n c) r) ∧ ∀ v : Nat, v < n → ∀ k, k ≤ r → inK E k v c = true → (leftR E (left0 n c) r).getD v 0 ≤ k := by
  induction r with
  | zero =>
    refine ⟨left0_sound hc, fun v hv k hk hin => ?_⟩
    have : k = 0 := by omega
    subst this
    have hvc : (v : Int) = c := by simpa [inK] using hin
    have : c.toNat = v := by omega
    rw [leftR, left0, getD_set _ _ _ _ _ (by simp; omega), if_pos this]
    simp
  | succ r ih =>
    obtain ⟨s1, c1⟩ := ih
    obtain ⟨s2, d2, e2⟩ := relaxes_sound hE (fun e he => he) s1
    refine ⟨s2, fun v hv k hk hin => ?_⟩
    have hd := d2 v hv
    rw [leftR]
    by_cases hkr : k ≤ r
    · have := c1 v hv k hkr hin
      omega
    · have : k = r + 1 := by omega
      subst this
      rcases inK_succ.1 hin with h | ⟨e, he, hev, h⟩
      · have := c1 v hv r (Nat.le_refl _) h
        omega
      · obtain ⟨⟨a0, a1⟩, b0, b1⟩ := hE e he
        have h1 := c1 e.2.toNat (by omega) r (Nat.le_refl _) (by
          have eb : ((e.2.toNat : Nat) : Int) = e.2 := by omega
          rw [eb]; exact h)
        have h2 := e2 e he
        have : e.1.toNat = v := by omega
        rw [this] at h2
        omega

def dstL (E : List (Int × Int)) (n : Nat) (c : Int) : List Int := (List.range n).map fun v : Nat => (dst E n v c : Int)
theorem dstL_len : (dstL E n c).length = n := by simp [dstL]
theorem dstL_at {v : Nat} (hv : v < n) : (dstL E n c).getD v 0 = (dst E n v c : Int) := by
  simp [dstL, List.getD_eq_getElem?_getD, hv]

theorem ext_getD {L M : List Int} (h : L.length = M.length) (h1 : ∀ v, v < L.length → L.getD v 0 = M.getD v 0) : L = M := by
  apply List.ext_getElem h
  intro i h2 h3
  have := h1 i h2
  simpa [List.getD_eq_getElem?_getD, List.getElem?_eq_getElem h2, List.getElem?_eq_getElem h3] using this

theorem leftR_dst (hE : edgesIn n E) (hc : 0 ≤ c ∧ c < n) : leftR E (left0 n c) (n - 1) = dstL E n c := by
  obtain ⟨⟨s1, s2⟩, s3⟩ := leftR_sound hE hc (n - 1)
  refine ext_getD (by rw [s1, dstL_len]) (fun v hv => ?_)
  rw [s1] at hv
  rw [dstL_at hv]
  obtain ⟨a1, a2⟩ := s2 v hv
  by_cases h : dst E n v c < n
  · have := s3 v hv (dst E n v c) (by omega) (dst_at h)
    omega
  · omega

/-- the model's rounds -/
def far1 (r : Nat) (L : List Int) (e : Int × Int) : List Int := if L.getD e.2.toNat 0 = r ∧ L.getD e.1.toNat 0 < 0 then L.set e.1.toNat (r + 1) else L
def fars (r : Nat) (L : List Int) (E : List (Int × Int)) : List Int := E.foldl (far1 r) L
def farR (E : List (Int × Int)) (L : List Int) : Nat → List Int
  | 0 => L
  | r + 1 => fars r (farR E L r) E
def far0 (n : Nat) (c : Int) : List Int := (List.replicate n (-1 : Int)).set c.toNat 0
/-- how few edges lead there; -1 if there is no way -/
def farD (E : List (Int × Int)) (n : Nat) (v c : Int) : Int := if dst E n v c < n then (dst E n v c : Int) else -1
def farL (E : List (Int × Int)) (n : Nat) (c : Int) : List Int := (List.range n).map fun v : Nat => farD E n v c

def farOk (E : List (Int × Int)) (n : Nat) (c : Int) (r : Nat) (F : List (Int × Int)) (L : List Int) : Prop :=
  L.length = n ∧ ∀ v : Nat, v < n → L.getD v 0 = if inK E r v c = true then (dst E n v c : Int) else if ∃ e ∈ F, e.1 = v ∧ inK E r e.2 c = true then (r : Int) + 1 else -1

theorem far1_ok {r : Nat} {F : List (Int × Int)} {L : List Int} {e : Int × Int} (hr : r < n) (hE : edgesIn n E) (he : e ∈ E) (h : farOk E n c r F L) : farOk E n c r (F ++ [e]) (far1 r L e) := by
  obtain ⟨hl, hs⟩ := h
  obtain ⟨⟨a0, a1⟩, b0, b1⟩ := hE e he
  have ea : ((e.1.toNat : Nat) : Int) = e.1 := by omega
  have eb : ((e.2.toNat : Nat) : Int) = e.2 := by omega
  have g1 := hs e.1.toNat (by omega)
  have g2 := hs e.2.toNat (by omega)
  rw [ea] at g1
  rw [eb] at g2
  have h1 : e.1.toNat < L.length := by omega
  refine ⟨by unfold far1; split <;> simp [hl], fun v hv => ?_⟩
  have gv := hs v hv
  have hex : (∃ x ∈ F ++ [e], x.1 = (v : Int) ∧ inK E r x.2 c = true) ↔ (∃ x ∈ F, x.1 = (v : Int) ∧ inK E r x.2 c = true) ∨ (e.1 = (v : Int) ∧ inK E r e.2 c = true) := by
    constructor
    · rintro ⟨x, hx, h⟩
      rcases List.mem_append.1 hx with hx | hx
      · exact .inl ⟨x, hx, h⟩
      · simp at hx; subst hx; exact .inr h
    · rintro (⟨x, hx, h⟩ | h)
      · exact ⟨x, by simp [hx], h⟩
      · exact ⟨e, by simp, h⟩
  by_cases hv1 : e.1 = (v : Int)
  · have hvn : e.1.toNat = v := by omega
    by_cases hin : inK E r v c = true
    · rw [if_pos hin]
      rw [if_pos hin] at gv
      have hneg : ¬ L.getD e.1.toNat 0 < 0 := by rw [hvn, gv]; omega
      rw [far1, if_neg (by intro hh; exact hneg hh.2)]
      exact gv
    · rw [if_neg hin] at gv ⊢
      by_cases hin2 : inK E r e.2 c = true
      · rw [if_pos (hex.2 (.inr ⟨hv1, hin2⟩))]
        have hd : dst E n e.2 c = r := by
          have d1 := (dst_le (E := E) (v := e.2) (c := c) hr).2 hin2
          have d2 : ¬ dst E n e.1 c ≤ r := by rw [dst_le hr, hv1]; exact hin
          have d3 := dst_edge (n := n) (c := c) he
          omega
        rw [if_pos hin2, hd] at g2
        unfold far1
        by_cases hx : ∃ x ∈ F, x.1 = (v : Int) ∧ inK E r x.2 c = true
        · rw [if_pos hx] at gv
          rw [if_neg (by rw [hvn, gv]; omega)]
          exact gv
        · rw [if_neg hx] at gv
          rw [if_pos (by rw [hvn, gv, g2]; simp), getD_set _ _ _ _ _ h1, if_pos hvn]
      · have hx : (∃ x ∈ F ++ [e], x.1 = (v : Int) ∧ inK E r x.2 c = true) ↔ ∃ x ∈ F, x.1 = (v : Int) ∧ inK E r x.2 c = true := by
          rw [hex]; constructor
          · rintro (h | h)
            · exact h
            · exact absurd h.2 hin2
          · exact .inl
        have hne : L.getD e.2.toNat 0 ≠ r := by
          rw [g2, if_neg hin2]; split <;> omega
        rw [far1, if_neg (fun hh => hne hh.1)]
        simp only [hx]
        exact gv
  · have hvn : e.1.toNat ≠ v := by omega
    have hx : (∃ x ∈ F ++ [e], x.1 = (v : Int) ∧ inK E r x.2 c = true) ↔ ∃ x ∈ F, x.1 = (v : Int) ∧ inK E r x.2 c = true := by
      rw [hex]; constructor
      · rintro (h | h)
        · exact h
        · exact absurd h.1 hv1
      · exact .inl
    simp only [hx]
    rw [← gv]
    unfold far1
    split
    · rw [getD_set _ _ _ _ _ h1, if_neg hvn]
    · rfl

theorem fars_ok {r : Nat} {F G : List (Int × Int)} {L : List Int} (hr : r < n) (hE : edgesIn n E) (hG : ∀ e ∈ G, e ∈ E) (h : farOk E n c r F L) : farOk E n c r (F ++ G) (fars r L G) := by
  induction G generalizing F L with
  | nil => simpa [fars] using h
  | cons e G ih =>
    have h1 := far1_ok hr hE (hG e (by simp)) h
    have h2 := ih (fun x hx => hG x (by simp [hx])) h1
    rw [List.append_assoc] at h2
    exact h2

theorem farR_ok (hE : edgesIn n E) (hc : 0 ≤ c ∧ c < n) (r : Nat) (hr : r ≤ n) : (farR E (far0 n c) r).length = n ∧ ∀ v : Nat, v < n → (farR E (far0 n c) r).getD v 0 = if inK E r v c = true then (dst E n v c : Int) else -1 := by
  induction r with
  | zero =>
    refine ⟨by simp [farR, far0], fun v hv => ?_⟩
    rw [farR, far0, getD_set _ _ _ _ _ (by simp; omega)]
    by_cases h : (v : Int) = c
    · subst h
      have : (inK E 0 (v : Int) (v : Int)) = true := inK_self 0
      rw [if_pos this, dst_self (by omega)]; simp
    · have h1 : inK E 0 v c = false := by simp [inK, h]
      rw [if_neg (by omega), h1]
      simp [List.getD_eq_getElem?_getD, hv]
  | succ r ih =>
    obtain ⟨hl, hs⟩ := ih (by omega)
    have h0 : farOk E n c r [] (farR E (far0 n c) r) := ⟨hl, fun v hv => by rw [hs v hv]; simp⟩
    obtain ⟨h1, h2⟩ := fars_ok (by omega) hE (fun e he => he) h0
    refine ⟨h1, fun v hv => ?_⟩
    rw [farR, h2 v hv, List.nil_append]
    by_cases hin : inK E r v c = true
    · rw [if_pos hin, if_pos (inK_up hin)]
    · rw [if_neg hin]
      by_cases hx : ∃ e ∈ E, e.1 = (v : Int) ∧ inK E r e.2 c = true
      · have hin2 : inK E (r + 1) v c = true := inK_succ.2 (.inr hx)
        rw [if_pos hx, if_pos hin2]
        have d1 : ¬ dst E n v c ≤ r := by rw [dst_le (by omega)]; exact hin
        have d2 := (dst_le (E := E) (v := v) (c := c) (show n - 1 < n by omega)).2 (inK_all hc hE hin2)
        have d3 := (dst_le (E := E) (v := v) (c := c) (show r + 1 < n by omega)).2 hin2
        omega
      · have hin2 : ¬ inK E (r + 1) v c = true := by
          rw [inK_succ]; rintro (h | h)
          · exact hin h
          · exact hx h
        rw [if_neg hx, if_neg hin2]

theorem farR_dst (hE : edgesIn n E) (hc : 0 ≤ c ∧ c < n) : farR E (far0 n c) n = farL E n c := by
  obtain ⟨s1, s2⟩ := farR_ok hE hc n (Nat.le_refl _)
  refine ext_getD (by rw [s1]; simp [farL]) (fun v hv => ?_)
  rw [s1] at hv
  rw [s2 v hv]
  have e : (farL E n c).getD v 0 = farD E n v c := by simp [farL, List.getD_eq_getElem?_getD, hv]
  rw [e, farD]
  by_cases h : inK E n v c = true
  · rw [if_pos h]
    have := (dst_le (E := E) (v := v) (c := c) (show n - 1 < n by omega)).2 (inK_all hc hE h)
    rw [if_pos (by omega)]
  · rw [if_neg h, if_neg]
    intro hlt
    exact h (inK_mono (by omega) (dst_at hlt))

/-- what is reached: a row of nodes grown by rounds -/
theorem inK_iff (hc : 0 ≤ c ∧ c < n) (hE : edgesIn n E) : dst E n v c < n ↔ ∃ m, inK E m v c = true :=
  ⟨fun h => ⟨_, dst_at h⟩, fun ⟨m, h⟩ => by
    have := (dst_le (E := E) (v := v) (c := c) (show n - 1 < n by omega)).2 (inK_all hc hE h)
    omega⟩
end

end Go.Proofs.Ytiplpdcilcghmaa
