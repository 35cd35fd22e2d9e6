/- Plain facts. -/
import Derived.Test.YtmgpekdhcghabaaGreatGR15
import Derived.Test.YtmgpekdhcghabaaGreatGR10
import Derived.Test.YtmgpekdhcghabaaGreatGR23
import Derived.Test.YtmgpekdhcghabaaGreatGR20
import Derived.Test.YtmgpekdhcghabaaGreatGR21
import Derived.Test.YtmgpekdhcghabaaGreatGR25
/- A row of rows of numbers, with the blocks that it lies in. -/
namespace Go.Proofs.YtmgpekdhcghabaaGreat
open Go.RowKit

/-- a row of rows from block b on, all of it below block t -/
def RowsB (w : World) (b t : Nat) (v : Value) (Ls : List (List Int)) : Prop :=
  ∃ vs : List Value, vs.length = Ls.length ∧ w.ownsRow b 30 1 v Ls.length vs ∧ Ls.length ≤ small ∧ (∀ q, v.ownBlock = some q → q < t) ∧ ∀ k (h : k < Ls.length) (h' : k < vs.length), Ints w b vs[k] Ls[k] ∧ ∀ q, vs[k].ownBlock = some q → q < t
/-- and no two of its rows share memory -/
def RowsM (w : World) (b t : Nat) (v : Value) (Ls : List (List Int)) : Prop :=
  ∃ vs : List Value, vs.length = Ls.length ∧ w.ownsRow b 30 1 v Ls.length vs ∧ Ls.length ≤ small ∧ (∀ q, v.ownBlock = some q → q < t) ∧ (∀ k (h : k < Ls.length) (h' : k < vs.length), Ints w b vs[k] Ls[k] ∧ ∀ q, vs[k].ownBlock = some q → q < t) ∧ Apart vs

theorem RowsM.toB {w : World} {b t : Nat} {v : Value} {Ls : List (List Int)} (h : RowsM w b t v Ls) : RowsB w b t v Ls := by
  obtain ⟨vs, h1, h2, h3, h4, h5, -⟩ := h
  exact ⟨vs, h1, h2, h3, h4, h5⟩
theorem RowsB.toB {w : World} {b t : Nat} {v : Value} {Ls : List (List Int)} (h : RowsB w b t v Ls) : RowsB w b t v Ls := h
theorem RowsB.keep {w w' : World} {b t : Nat} {v : Value} {Ls : List (List Int)} (h : RowsB w b t v Ls) (hb : Below w.heap.size w w') : RowsB w' b t v Ls := by
  obtain ⟨vs, h1, h2, h3, h4, h5⟩ := h
  exact ⟨vs, h1, own_keep h2 (Nat.le_refl _) hb, h3, h4, fun k hk hk' => ⟨(h5 k hk hk').1.keep hb, (h5 k hk hk').2⟩⟩
theorem RowsM.keep {w w' : World} {b t : Nat} {v : Value} {Ls : List (List Int)} (h : RowsM w b t v Ls) (hb : Below w.heap.size w w') : RowsM w' b t v Ls := by
  obtain ⟨vs, h1, h2, h3, h4, h5, h6⟩ := h
  exact ⟨vs, h1, own_keep h2 (Nat.le_refl _) hb, h3, h4, fun k hk hk' => ⟨(h5 k hk hk').1.keep hb, (h5 k hk hk').2⟩, h6⟩
theorem OwnRows.toB {w : World} {b g cap : Nat} {Ls : List (List Int)} (h : OwnRows w b g cap Ls) : RowsB w b w.heap.size (.slice (some ⟨g, 0, none⟩) Ls.length cap) Ls := by
  obtain ⟨vs, h1, h2, h3, h4⟩ := h
  exact ⟨vs, h1, h2, h3, fun q hq => (h2.lt q hq).2, fun k hk hk' => ⟨h4 k hk hk', fun q hq => ((h4 k hk hk').1.lt q hq).2⟩⟩
theorem OwnRowsV.toM {w : World} {b : Nat} {v : Value} {Ls : List (List Int)} (h : OwnRowsV w b v Ls) : RowsM w b w.heap.size v Ls := by
  obtain ⟨vs, h1, h2, h3, h4, h5⟩ := h
  exact ⟨vs, h1, h2, h3, fun q hq => (h2.lt q hq).2, fun k hk hk' => ⟨h4 k hk hk', fun q hq => ((h4 k hk hk').1.lt q hq).2⟩, h5⟩

theorem own_under {w w' : World} {B b n : Nat} {e : TypeId} {size : Nat} {v : Value} {xs : List Value} (h : w.ownsRow b e size v n xs) (hB : ∀ q, v.ownBlock = some q → q < B) (hb : Below B w w') : w'.ownsRow b e size v n xs := by
  refine ⟨h.1, ?_⟩
  rcases h.2 with h0 | ⟨g, cap, cur, hv, hg, hh, r⟩
  · exact .inl h0
  · refine .inr ⟨g, cap, cur, hv, hg, ?_, r⟩
    rw [hb.block g (hB g (by rw [hv]; rfl))]; exact hh
theorem Ints.under {w w' : World} {B b : Nat} {v : Value} {xs : List Int} (h : Ints w b v xs) (hB : ∀ q, v.ownBlock = some q → q < B) (hb : Below B w w') : Ints w' b v xs := ⟨own_under h.1 hB hb, h.2⟩
theorem Pipes.under {w w' : World} {B b : Nat} {v : Value} {xs : List Pp} (h : Pipes w b v xs) (hB : ∀ q, v.ownBlock = some q → q < B) (hb : Below B w w') : Pipes w' b v xs := ⟨own_under h.1 hB hb, h.2⟩
theorem RowsB.under {w w' : World} {B b t : Nat} {v : Value} {Ls : List (List Int)} (h : RowsB w b t v Ls) (hB : t ≤ B) (hb : Below B w w') : RowsB w' b t v Ls := by
  obtain ⟨vs, h1, h2, h3, h4, h5⟩ := h
  exact ⟨vs, h1, own_under h2 (fun q hq => Nat.lt_of_lt_of_le (h4 q hq) hB) hb, h3, h4, fun k hk hk' => ⟨(h5 k hk hk').1.under (fun q hq => Nat.lt_of_lt_of_le ((h5 k hk hk').2 q hq) hB) hb, (h5 k hk hk').2⟩⟩
theorem RowsB.kept {w w' : World} {b t : Nat} {v : Value} {Ls : List (List Int)} {row : Option Nat} (h : RowsB w b t v Ls) (hg : w.grownBy w' row) (hr : ∀ q, row = some q → t ≤ q ∨ q < b) : RowsB w' b t v Ls := by
  obtain ⟨vs, h1, h2, h3, h4, h5⟩ := h
  have key : ∀ u : Value, (∀ q, u.ownBlock = some q → b ≤ q ∧ q < t) → u.ownBlock = none ∨ u.ownBlock ≠ row := by
    intro u hu
    cases e : u.ownBlock with
    | none => exact .inl rfl
    | some q =>
      refine .inr fun he => ?_
      have := hu q e
      rcases hr q he.symm with h | h <;> omega
  exact ⟨vs, h1, h2.kept hg (key v fun q hq => ⟨(h2.lt q hq).1, h4 q hq⟩), h3, h4, fun k hk hk' => ⟨⟨(h5 k hk hk').1.1.kept hg (key _ fun q hq => ⟨((h5 k hk hk').1.1.lt q hq).1, (h5 k hk hk').2 q hq⟩), (h5 k hk hk').1.2⟩, (h5 k hk hk').2⟩⟩
theorem RowsM.kept {w w' : World} {b t : Nat} {v : Value} {Ls : List (List Int)} {row : Option Nat} (h : RowsM w b t v Ls) (hg : w.grownBy w' row) (hr : ∀ q, row = some q → t ≤ q ∨ q < b) : RowsM w' b t v Ls := by
  obtain ⟨vs, h1, h2, h3, h4, h5, h6⟩ := h
  obtain ⟨vs', k1, k2, k3, k4, k5⟩ := RowsB.kept (⟨vs, h1, h2, h3, h4, h5⟩ : RowsB w b t v Ls) hg hr
  have key : ∀ u : Value, (∀ q, u.ownBlock = some q → b ≤ q ∧ q < t) → u.ownBlock = none ∨ u.ownBlock ≠ row := by
    intro u hu
    cases e : u.ownBlock with
    | none => exact .inl rfl
    | some q =>
      refine .inr fun he => ?_
      have := hu q e
      rcases hr q he.symm with h | h <;> omega
  exact ⟨vs, h1, h2.kept hg (key v fun q hq => ⟨(h2.lt q hq).1, h4 q hq⟩), h3, h4, fun k hk hk' => ⟨⟨(h5 k hk hk').1.1.kept hg (key _ fun q hq => ⟨((h5 k hk hk').1.1.lt q hq).1, (h5 k hk hk').2 q hq⟩), (h5 k hk hk').1.2⟩, (h5 k hk hk').2⟩, h6⟩

theorem RowsB.form {w : World} {b t : Nat} {v : Value} {Ls : List (List Int)} (h : RowsB w b t v Ls) :
    ∃ A c, v = .slice A Ls.length c ∧ Ls.length ≤ c ∧ c ≤ maxLen ∧ Ls.length ≤ 4194304 ∧ ∀ wr, Below w.heap.size w wr → ∀ k (hk : k < Ls.length), ∃ g vk, A = some ⟨g, 0, none⟩ ∧ b ≤ g ∧ g < w.heap.size ∧ wr.cell? ⟨g, k, none⟩ = some vk ∧ Ints wr b vk Ls[k] := by
  obtain ⟨vs, h1, h2, h3, h4, h5⟩ := h
  obtain ⟨A, c, hv, c1, c2, c3⟩ := own_form h2
  refine ⟨A, c, hv, c1, c2, h3, fun wr hb k hk => ?_⟩
  have hkv : k < vs.length := by omega
  obtain ⟨g, hA, hg, hg2, c0, -⟩ := c3 k vs[k] (by simp [hkv])
  exact ⟨g, vs[k], hA, hg, hg2, (hb.cell (p := ⟨g, k, none⟩) hg2).trans c0, (h5 k hk hkv).1.keep hb⟩

theorem RowsM.form {w : World} {b t : Nat} {v : Value} {Ls : List (List Int)} (h : RowsM w b t v Ls) :
    ∃ A c, v = .slice A Ls.length c ∧ Ls.length ≤ c ∧ c ≤ maxLen ∧ Ls.length ≤ 4194304 ∧ ∀ wr, Below w.heap.size w wr → ∀ k (hk : k < Ls.length), ∃ g vk, A = some ⟨g, 0, none⟩ ∧ b ≤ g ∧ g < w.heap.size ∧ wr.cell? ⟨g, k, none⟩ = some vk ∧ Ints wr b vk Ls[k] := h.toB.form

end Go.Proofs.YtmgpekdhcghabaaGreat

/- Rows of rows, as laws read them. -/
namespace Go.Proofs.YtmgpekdhcghabaaGreat
open Go.RowKit

/-- a row without its first number -/
theorem Ints.tail {w : World} {b g c M : Nat} {L : List Int} (h : Ints w b (.slice (some ⟨g, 0, none⟩) M c) L) (hM : L.length = M) (h1 : 1 ≤ M) : Reads w (.slice (some ⟨g, 1, none⟩) (M - 1) (c - 1)) (L.drop 1) := by
  obtain ⟨A, c', hv, h2, h3, h4, h5⟩ := h.form
  injection hv with e1 e2 e3
  subst e3
  refine ⟨some ⟨g, 1, none⟩, c - 1, by simp [hM], by rw [List.length_drop]; omega, by omega, by rw [List.length_drop]; omega, fun h0 => ?_⟩
  have h1l : 1 < L.length := by rw [List.length_drop] at h0; omega
  obtain ⟨g', e4, -, g2, -, -⟩ := h5 w (Below.refl _ _) 1 h1l
  rw [← e1] at e4
  injection e4 with e4
  injection e4 with e4 _
  subst e4
  refine ⟨g, 1, rfl, g2, fun k hk => ?_⟩
  have hk2 : 1 + k < L.length := by rw [List.length_drop] at hk; omega
  obtain ⟨g', e4, -, -, g3, -⟩ := h5 w (Below.refl _ _) (1 + k) hk2
  rw [← e1] at e4
  injection e4 with e4
  injection e4 with e4 _
  subst e4
  rw [g3]
  simp [Nat.add_comm]

end Go.Proofs.YtmgpekdhcghabaaGreat

/- Plain facts of chapter 4: what rings are made of. -/
namespace Go.Proofs.YtmgpekdhcghabaaGreat
open Go.RowKit

theorem rings_each {n : Int} {ps : List Pp} (hr : ∀ p ∈ ps, 0 ≤ p.fr ∧ p.fr < n ∧ 0 ≤ p.to ∧ p.to < n) (hn : n ≤ 5) : ∀ (f : Nat) (xs : List Int), xs.length = ps.length → (∀ i, 0 ≤ xs.getD i 0 ∧ xs.getD i 0 ≤ 40) → ∀ L ∈ ringsP ps f xs, 2 ≤ L.length ∧ L.length ≤ 7 := by
  intro f
  induction f with
  | zero => intro xs _ _ L hL; simp [ringsP] at hL
  | succ f ih =>
    intro xs hl hb L hL
    rcases hk : firstP xs with _ | k
    · rw [ringsP, hk] at hL; simp at hL
    · rw [rings_on hk] at hL
      obtain ⟨h1, h2, -⟩ := range_find.1 hk
      obtain ⟨hend, hne, hnd, hop⟩ := ring_parts (k := k) hr hn (by omega) (of_decide_eq_true h2)
      rcases List.mem_cons.1 hL with rfl | hL
      · have h3 := List.length_pos_iff.2 hne
        have h4 : (ringP ps xs k).length ≤ 6 := by
          unfold ringP
          rw [List.length_drop]
          have := hend.2.2.2
          omega
        simp only [List.length_cons, natsI, List.length_map]
        omega
      · obtain ⟨-, -, h5, -⟩ := ring_less hl hb hne hnd hop
        exact ih _ (by rw [less_len]; exact hl) (fun i => by have := h5 i; have := hb i; omega) L hL
end Go.Proofs.YtmgpekdhcghabaaGreat

/- PartsOf, as its exact law calls it. -/
namespace Go.Proofs.YtmgpekdhcghabaaGreat
open Go.RowKit

theorem parts_rows {n a b : Int} {ps : List Pp} : ∀ (f : Nat) (left : Int) (xs : List Int), PartSt n ps xs a b left → 0 ≤ left → ∀ L ∈ partsP ps a b f left xs, 2 ≤ L.length ∧ L.length ≤ 7 := by
  intro f
  induction f with
  | zero => intro left xs _ _ L hL; simp [partsP] at hL
  | succ f ih =>
    intro left xs hst h0 L hL
    obtain ⟨hn, hlen, -⟩ := flowOk_parts hst.flow
    obtain ⟨n2, n5, -, hpo⟩ := netOk_parts hn
    by_cases hl : 0 < left
    · rw [parts_on hl] at hL
      obtain ⟨sne, -, -, s6, -, -, sL0, sst, -⟩ := hst.step hl
      rcases List.mem_cons.1 hL with rfl | hL
      · have h3 := List.length_pos_iff.2 sne
        simp only [List.length_cons, natsI, List.length_map]
        omega
      · exact ih _ _ sst sL0 L hL
    · rw [parts_off hl] at hL
      exact rings_each (fun p hp => by obtain ⟨p0, p1, p2, p3, -⟩ := pipeOk_parts (hpo p hp); exact ⟨p0, p1, p2, p3⟩) n5 8 xs hlen (flow_getD hst.flow) L hL
theorem parts_few {a b : Int} {ps : List Pp} : ∀ (f : Nat) (left : Int) (xs : List Int), (partsP ps a b f left xs).length ≤ f + 8 := by
  intro f
  induction f with
  | zero => intro left xs; simp [partsP]
  | succ f ih =>
    intro left xs
    by_cases hl : 0 < left
    · rw [parts_on hl, List.length_cons]
      have := ih (partL ps xs a b left) (lessP (partD ps xs a b left) xs (partP ps xs a b))
      omega
    · rw [parts_off hl]
      have := rings_few8 (ps := ps) 8 xs
      unfold ringsL
      omega
theorem partsR_each {n a b : Int} {ps : List Pp} {xs : List Int} : ∀ L ∈ partsR n ps xs a b, 2 ≤ L.length ∧ L.length ≤ 7 := by
  intro L hL
  by_cases h : partsOkB n ps xs a b = true
  · rw [parts_yes h] at hL
    obtain ⟨h1, h2⟩ := PartSt.of h
    exact parts_rows 10 _ _ h1 h2 L hL
  · rw [parts_no (by simpa using h)] at hL; simp at hL
theorem partsR_few {n a b : Int} {ps : List Pp} {xs : List Int} : (partsR n ps xs a b).length ≤ 18 := by
  by_cases h : partsOkB n ps xs a b = true
  · rw [parts_yes h]; exact parts_few 10 _ _
  · rw [parts_no (by simpa using h)]; simp
end Go.Proofs.YtmgpekdhcghabaaGreat
