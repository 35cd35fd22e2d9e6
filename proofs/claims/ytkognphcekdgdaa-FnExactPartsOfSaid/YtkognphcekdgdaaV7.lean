/- Contracts of the functions of chapter 4 in the program: the rings of a flow. -/
import Derived.Test.YtkognphcekdgdaaN9
import Derived.Test.YtkognphcekdgdaaV6
import Derived.Test.YtkognphcekdgdaaW3
namespace Go.Proofs.Ytkognphcekdgdaa
open Go.RowKit

/-- no two of these rows share memory -/
def Apart (vs : List Value) : Prop := ∀ i j, (h : i < j) → (hj : j < vs.length) → (vs[i]'(by omega)).ownBlock = none ∨ (vs[i]'(by omega)).ownBlock ≠ vs[j].ownBlock
theorem Apart.snoc {vs : List Value} {row : Value} {B : Nat} (h : Apart vs) (h1 : ∀ i (h : i < vs.length) q, vs[i].ownBlock = some q → q < B) (h2 : ∀ q, row.ownBlock = some q → B ≤ q) : Apart (vs ++ [row]) := by
  intro i j hij hj
  have hi : i < vs.length := by simp at hj; omega
  have ei : (vs ++ [row])[i]'(by simp; omega) = vs[i] := List.getElem_append_left hi
  rw [ei]
  by_cases hlt : j < vs.length
  · have ej : (vs ++ [row])[j] = vs[j] := List.getElem_append_left hlt
    rw [ej]
    exact h i j hij hlt
  · have hjl : j = vs.length := by simp at hj; omega
    subst hjl
    have ej : (vs ++ [row])[vs.length] = row := by simp
    rw [ej]
    cases hv : vs[i].ownBlock with
    | none => exact .inl rfl
    | some k =>
      refine .inr fun he => ?_
      have a1 := h1 i hi k hv
      have a2 := h2 k he.symm
      omega

def OwnRowsV (w : World) (b : Nat) (v : Value) (Ls : List (List Int)) : Prop :=
  ∃ vs : List Value, vs.length = Ls.length ∧ w.ownsRow b 25 1 v Ls.length vs ∧ Ls.length ≤ small ∧ (∀ k (h : k < Ls.length) (h' : k < vs.length), Ints w b vs[k] Ls[k]) ∧ Apart vs
theorem OwnRowsV.keep {w w' : World} {b : Nat} {v : Value} {Ls : List (List Int)} (h : OwnRowsV w b v Ls) (hb : Below w.heap.size w w') : OwnRowsV w' b v Ls := by
  obtain ⟨vs, h1, h2, h3, h4, h5⟩ := h
  exact ⟨vs, h1, own_keep h2 (Nat.le_refl _) hb, h3, fun k hk hk' => (h4 k hk hk').keep hb, h5⟩
theorem OwnRowsV.none_ (w : World) (b : Nat) : OwnRowsV w b (.slice none 0 0) [] := ⟨[], rfl, World.ownsRow_nil _ _ _ 1, by simp [small], fun k hk => absurd hk (by simp), fun i j _ hj => absurd hj (by simp)⟩
theorem Ints.otherV {w w' : World} {b b2 N : Nat} {v v2 : Value} {xs : List Int} {vs : List Value} (h : Ints w b v xs) (ho : w.ownsRow b2 25 1 v2 N vs) (hg : w.grownBy w' v2.ownBlock) : Ints w' b v xs := by
  rcases ho.2 with ⟨h2, hn⟩ | ⟨g, cap, cur, h2, r⟩
  · subst h2
    refine ⟨h.1.kept hg ?_, h.2⟩
    by_cases hv : v.ownBlock = none
    · exact .inl hv
    · exact .inr hv
  · subst h2
    exact h.other ho hg
theorem rows_snocV {w w6 : World} {b g6 k6 : Nat} {v2 : Value} {Ls : List (List Int)} {L : List Int} {row : Value} {vs : List Value} (h1 : vs.length = Ls.length) (h2 : w.ownsRow b 25 1 v2 Ls.length vs)
    (h4 : ∀ k (h : k < Ls.length) (h' : k < vs.length), Ints w b vs[k] Ls[k]) (hr : Ints w b row L) (hap : Apart (vs ++ [row])) (hs : Ls.length + 1 ≤ small) (hg : w.grownBy w6 v2.ownBlock)
    (ho : w6.ownsRow b 25 1 (.slice (some ⟨g6, 0, none⟩) (Ls.length + 1) k6) (Ls.length + 1) (vs ++ [row])) : OwnRowsV w6 b (.slice (some ⟨g6, 0, none⟩) (Ls.length + 1) k6) (Ls ++ [L]) := by
  have hl : (Ls ++ [L]).length = Ls.length + 1 := by simp
  refine ⟨vs ++ [row], by simp [h1], by rw [hl]; exact ho, by rw [hl]; exact hs, fun k hk hk' => ?_, hap⟩
  by_cases hlt : k < Ls.length
  · have e1 : (vs ++ [row])[k] = vs[k]'(by omega) := List.getElem_append_left (by omega)
    have e2 : (Ls ++ [L])[k] = Ls[k] := List.getElem_append_left hlt
    rw [e1, e2]
    exact (h4 k hlt (by omega)).otherV h2 hg
  · have hkl : k = Ls.length := by omega
    subst hkl
    have e1 : (vs ++ [row])[Ls.length] = row := by simp [← h1]
    have e2 : (Ls ++ [L])[Ls.length] = L := by simp
    rw [e1, e2]
    exact hr.otherV h2 hg

set_option maxHeartbeats 400000 in
set_option maxRecDepth 20000 in
theorem posFn_any (x : Int) (w : World) : Calls Try.prog 72 #[.int .i64 x] w fun e w' => e = .returned (.bool (decide (0 < x))) ∧ w = w' := by
  go_enter Try.func72, Try.ntmps72
  go_wp2
  go_ret
  exact ⟨rfl, rfl⟩

set_option maxHeartbeats 1000000 in
set_option maxRecDepth 20000 in
theorem indexPos_any (u : Value) (xs : List Int) (b : Nat) (w : World) (hx : Ints w b u xs) :
    Calls Try.prog 71 #[u, .func (Fn.func 72) #[] #[]] w fun e w' => ∃ r : Int, e = .returned (.int .i64 r) ∧ ((r = -1 ∧ firstP xs = none) ∨ ∃ q : Nat, r = (q : Int) ∧ firstP xs = some q) ∧ Below w.heap.size w w' := by
  obtain ⟨A0, c0, rfl, hc1, hc2, hs, hcell⟩ := hx.form
  unfold maxLen at hc2
  go_enter Try.func71, Try.ntmps71
  go_wp2
  go_loopw [8] (fun i wr => ∃ k : Nat, k ≤ xs.length ∧ i = .int .i64 k ∧ (∀ i, i < k → decide (0 < xs.getD i 0) = false) ∧ Below w.heap.size w wr) (fun i _ => xs.length - (intOf i).toNat)
  case atStart => exact ⟨0, by omega, rfl, fun i hi => absurd hi (by omega), Below.refl _ _⟩
  case round =>
    obtain ⟨k, hk, rfl, hall, hb⟩ := hrel
    have Hall := Lib.hid hall
    clear hall
    have hzb := hb.size
    by_cases hlt : k < xs.length
    · obtain ⟨g, rfl, hg1, hg2, cx, -⟩ := hcell wr hb k hlt
      have HG := Lib.hid (getD_at hlt)
      generalize xs[k] = y at *
      by_cases hy : 0 < y
      · have hyd : decide (0 < y) = true := decide_eq_true hy
        have Hf : Hid (firstP xs = some k) := Lib.hid (range_find.2 ⟨hlt, by rw [HG.out]; exact hyd, Hall.out⟩)
        clear hy
        go_wp2_with fail
        refine (posFn_any y _).mono ?_
        rintro e w1 ⟨rfl, rfl⟩
        rw [hyd]
        go_wp2
        go_ret
        exact ⟨_, rfl, .inr ⟨k, rfl, Hf.out⟩, by (repeat (first | (with_reducible assumption) | (with_reducible exact Below.refl _ _) | ((with_reducible refine Below.alloc ?_ ?hsz _); (case hsz => (first | omega | (simp; done) | (simp; omega) | (simp at *; omega)))) | ((with_reducible refine Below.setCell ?_ ?hsz _); (case hsz => (first | omega | (simp; done) | (simp; omega) | (simp at *; omega)))) | (with_reducible refine Below.drew ?_) | (with_reducible refine below_drewN ?_ _) | ((with_reducible refine Below.trans ?_ (Below.mono (by with_reducible assumption) ?hsz)); (case hsz => (first | omega | (simp; done) | (simp; omega) | (simp at *; omega))))))⟩
      · have hyd : decide (0 < y) = false := decide_eq_false hy
        have Hn := Lib.hid (show ∀ i, i < k + 1 → decide (0 < xs.getD i 0) = false by
          intro i hi
          rcases Nat.lt_succ_iff_lt_or_eq.1 hi with h | h
          · exact Hall.out i h
          · subst h; rw [HG.out]; exact hyd)
        clear hy
        go_wp2_with fail
        refine (posFn_any y _).mono ?_
        rintro e w1 ⟨rfl, rfl⟩
        rw [hyd]
        go_wp2
        go_roundw
        case rel => exact ⟨k + 1, by omega, by go_num, Hn.out, by (repeat (first | (with_reducible assumption) | (with_reducible exact Below.refl _ _) | ((with_reducible refine Below.alloc ?_ ?hsz _); (case hsz => (first | omega | (simp; done) | (simp; omega) | (simp at *; omega)))) | ((with_reducible refine Below.setCell ?_ ?hsz _); (case hsz => (first | omega | (simp; done) | (simp; omega) | (simp at *; omega)))) | (with_reducible refine Below.drew ?_) | (with_reducible refine below_drewN ?_ _) | ((with_reducible refine Below.trans ?_ (Below.mono (by with_reducible assumption) ?hsz)); (case hsz => (first | omega | (simp; done) | (simp; omega) | (simp at *; omega))))))⟩
        case measure => first | (simp [intOf]; done) | (simp [intOf]; omega)
    · have Hf : Hid (firstP xs = none) := Lib.hid (range_none.2 fun i hi => Hall.out i (by omega))
      go_wp2
      go_ret
      exact ⟨_, rfl, .inl ⟨rfl, Hf.out⟩, hb⟩

end Go.Proofs.Ytkognphcekdgdaa
