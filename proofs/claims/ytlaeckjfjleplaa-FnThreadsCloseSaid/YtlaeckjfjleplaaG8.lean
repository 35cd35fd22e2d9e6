/- Plain facts. -/
import Derived.Test.YtlaeckjfjleplaaG5
import Derived.Test.YtlaeckjfjleplaaG6
import Derived.Test.YtlaeckjfjleplaaGA
import Derived.Test.YtlaeckjfjleplaaG4
import Derived.Test.YtlaeckjfjleplaaG2
/- Contracts of the functions of chapter 4 in the program: PartsOf. -/
namespace Go.Proofs.Ytlaeckjfjleplaa
open Go.RowKit

theorem flows_no {n i j : Int} {ps : List Pp} {xs : List Int} {k : Nat} (hk : (k : Int) < n) (h1 : (k : Int) ≠ i) (h2 : (k : Int) ≠ j) (h3 : exc (k : Int) ps xs ≠ 0) : flowsB n ps xs i j = false := by
  have : ((List.range n.toNat).all fun k : Nat => decide ((k : Int) = i) || decide ((k : Int) = j) || decide (exc (k : Int) ps xs = 0)) = false := by
    rw [List.all_eq_false]
    exact ⟨k, List.mem_range.2 (by omega), by simp [h1, h2, h3]⟩
  rw [flowsB, this, Bool.false_and]
theorem flows_all {n i j : Int} {ps : List Pp} {xs : List Int} (h : ∀ q : Nat, (q : Int) < n → (q : Int) = i ∨ (q : Int) = j ∨ exc (q : Int) ps xs = 0) : flowsB n ps xs i j = decide (0 ≤ exc j ps xs) := by
  have : ((List.range n.toNat).all fun k : Nat => decide ((k : Int) = i) || decide ((k : Int) = j) || decide (exc (k : Int) ps xs = 0)) = true := by
    rw [List.all_eq_true]
    intro q hq
    have := h q (by have := List.mem_range.1 hq; omega)
    simp only [Bool.or_eq_true, decide_eq_true_eq]
    rcases this with h | h | h
    · exact .inl (.inl h)
    · exact .inl (.inr h)
    · exact .inr h
  rw [flowsB, this, Bool.true_and]

set_option maxHeartbeats 2000000 in
set_option maxRecDepth 20000 in
theorem flowsBetween_any (n i j : Int) (v u : Value) (ps : List Pp) (xs : List Int) (b b' : Nat) (w : World) (hp : Pipes w b v ps) (hx : Ints w b' u xs) (hok : flowOkB n ps xs = true) :
    Calls Try.prog 70 #[.agg #[.int .i64 n, v], u, .int .i64 i, .int .i64 j] w fun e w' => e = .returned (.bool (flowsB n ps xs i j)) ∧ Below w.heap.size w w' := by
  have hp0 := hp
  have hx0 := hx
  obtain ⟨A, c, rfl, -, -, -, -⟩ := hp.form
  obtain ⟨A0, c0, rfl, -, -, -, -⟩ := hx.form
  obtain ⟨hn, hlen, -⟩ := flowOk_parts hok
  obtain ⟨n2, n5, -, -⟩ := netOk_parts hn
  have Hok := Lib.hid hok
  have bx0 := Box2.new w (.int .i64 n) (.slice A ps.length c) 25
  clear hok hn hlen
  go_enter Try.func70, Try.ntmps70
  go_wp2
  go_loopw [12] (fun t wr => ∃ k : Nat, (k : Int) ≤ n ∧ t = .int .i64 k ∧ (∀ q : Nat, q < k → (q : Int) = i ∨ (q : Int) = j ∨ exc (q : Int) ps xs = 0) ∧ Box2 wr w.heap.size (.int .i64 n) (.slice A ps.length c) ∧ Below w.heap.size w wr) (fun t _ => (n - intOf t).toNat)
  case atStart => exact ⟨0, by omega, rfl, fun q hq => absurd hq (by omega), bx0, by (repeat (first | (with_reducible assumption) | (with_reducible exact Below.refl _ _) | ((with_reducible refine Below.alloc ?_ ?hsz _); (case hsz => (first | omega | (simp; done) | (simp; omega) | (simp at *; omega)))) | ((with_reducible refine Below.setCell ?_ ?hsz _); (case hsz => (first | omega | (simp; done) | (simp; omega) | (simp at *; omega)))) | (with_reducible refine Below.drew ?_) | (with_reducible refine below_drewN ?_ _) | ((with_reducible refine Below.trans ?_ (Below.mono (by with_reducible assumption) ?hsz)); (case hsz => (first | omega | (simp; done) | (simp; omega) | (simp at *; omega))))))⟩
  case round =>
    clear bx0
    obtain ⟨k, hk, rfl, hall, bx, hB⟩ := hrel
    have Hall := Lib.hid hall
    clear hall
    obtain ⟨bs, d0, d1, -, -⟩ := id bx
    have next : ∀ (h : (k : Int) = i ∨ (k : Int) = j ∨ exc (k : Int) ps xs = 0), Hid (∀ q : Nat, q < k + 1 → (q : Int) = i ∨ (q : Int) = j ∨ exc (q : Int) ps xs = 0) := fun h => Lib.hid (by
      intro q hq
      rcases Nat.lt_succ_iff_lt_or_eq.1 hq with hq | hq
      · exact Hall.out q hq
      · subst hq; exact h)
    have HN := Lib.hid next
    clear next
    by_cases hlt : (k : Int) < n
    · have hltd : decide ((k : Int) < n) = true := decide_eq_true hlt
      by_cases hi : (k : Int) = i
      · have Hn := HN.out (.inl hi)
        have hib : ((k : Int) != i) = false := by simp [hi]
        clear hi
        go_wp2
        go_roundw
        case rel => exact ⟨k + 1, by omega, by go_num, Hn.out, bx, hB⟩
        case measure => simp [intOf]; omega
      · have hib : ((k : Int) != i) = true := by simpa using hi
        have HI := Lib.hid hi
        clear hi
        by_cases hj : (k : Int) = j
        · have Hn := HN.out (.inr (.inl hj))
          have hjb : ((k : Int) != j) = false := by simp [hj]
          clear hj
          go_wp2
          go_roundw
          case rel => exact ⟨k + 1, by omega, by go_num, Hn.out, bx, hB⟩
          case measure => simp [intOf]; omega
        · have hjb : ((k : Int) != j) = true := by simpa using hj
          have HJ := Lib.hid hj
          clear hj
          go_wp2_with fail
          refine (excessOf_any (k : Int) n _ _ ps xs b b' _ ((hp0.keep hB).keep (by (repeat (first | (with_reducible assumption) | (with_reducible exact Below.refl _ _) | ((with_reducible refine Below.alloc ?_ ?hsz _); (case hsz => (first | omega | (simp; done) | (simp; omega) | (simp at *; omega)))) | ((with_reducible refine Below.setCell ?_ ?hsz _); (case hsz => (first | omega | (simp; done) | (simp; omega) | (simp at *; omega)))) | (with_reducible refine Below.drew ?_) | (with_reducible refine below_drewN ?_ _) | ((with_reducible refine Below.trans ?_ (Below.mono (by with_reducible assumption) ?hsz)); (case hsz => (first | omega | (simp; done) | (simp; omega) | (simp at *; omega)))))))) ((hx0.keep hB).keep (by (repeat (first | (with_reducible assumption) | (with_reducible exact Below.refl _ _) | ((with_reducible refine Below.alloc ?_ ?hsz _); (case hsz => (first | omega | (simp; done) | (simp; omega) | (simp at *; omega)))) | ((with_reducible refine Below.setCell ?_ ?hsz _); (case hsz => (first | omega | (simp; done) | (simp; omega) | (simp at *; omega)))) | (with_reducible refine Below.drew ?_) | (with_reducible refine below_drewN ?_ _) | ((with_reducible refine Below.trans ?_ (Below.mono (by with_reducible assumption) ?hsz)); (case hsz => (first | omega | (simp; done) | (simp; omega) | (simp at *; omega)))))))) Hok.out).mono ?_
          rintro e w1 ⟨rfl, hb1⟩
          have bx1 := bx.keep hb1
          have hB1 : Below w.heap.size w w1 := by (repeat (first | (with_reducible assumption) | (with_reducible exact Below.refl _ _) | ((with_reducible refine Below.alloc ?_ ?hsz _); (case hsz => (first | omega | (simp; done) | (simp; omega) | (simp at *; omega)))) | ((with_reducible refine Below.setCell ?_ ?hsz _); (case hsz => (first | omega | (simp; done) | (simp; omega) | (simp at *; omega)))) | (with_reducible refine Below.drew ?_) | (with_reducible refine below_drewN ?_ _) | ((with_reducible refine Below.trans ?_ (Below.mono (by with_reducible assumption) ?hsz)); (case hsz => (first | omega | (simp; done) | (simp; omega) | (simp at *; omega))))))
          clear bx hb1 d0 d1 bs
          by_cases he : exc (k : Int) ps xs = 0
          · have Hn := HN.out (.inr (.inr he))
            have heb : (exc (k : Int) ps xs != 0) = false := by simp [he]
            clear he
            go_wp2
            go_roundw
            case rel => exact ⟨k + 1, by omega, by go_num, Hn.out, bx1, hB1⟩
            case measure => simp [intOf]; omega
          · have heb : (exc (k : Int) ps xs != 0) = true := by simpa using he
            have Hr := Lib.hid (flows_no (i := i) (j := j) hlt HI.out HJ.out he)
            clear he
            go_wp2
            go_ret
            exact ⟨ret_bool Hr.out.symm, by (repeat (first | (with_reducible assumption) | (with_reducible exact Below.refl _ _) | ((with_reducible refine Below.alloc ?_ ?hsz _); (case hsz => (first | omega | (simp; done) | (simp; omega) | (simp at *; omega)))) | ((with_reducible refine Below.setCell ?_ ?hsz _); (case hsz => (first | omega | (simp; done) | (simp; omega) | (simp at *; omega)))) | (with_reducible refine Below.drew ?_) | (with_reducible refine below_drewN ?_ _) | ((with_reducible refine Below.trans ?_ (Below.mono (by with_reducible assumption) ?hsz)); (case hsz => (first | omega | (simp; done) | (simp; omega) | (simp at *; omega))))))⟩
    · have hltd : decide ((k : Int) < n) = false := decide_eq_false hlt
      have Hr := Lib.hid (flows_all (n := n) (i := i) (j := j) (ps := ps) (xs := xs) fun q hq => Hall.out q (by omega))
      go_wp2_with fail
      refine (excessOf_any j n _ _ ps xs b b' _ ((hp0.keep hB).keep (by (repeat (first | (with_reducible assumption) | (with_reducible exact Below.refl _ _) | ((with_reducible refine Below.alloc ?_ ?hsz _); (case hsz => (first | omega | (simp; done) | (simp; omega) | (simp at *; omega)))) | ((with_reducible refine Below.setCell ?_ ?hsz _); (case hsz => (first | omega | (simp; done) | (simp; omega) | (simp at *; omega)))) | (with_reducible refine Below.drew ?_) | (with_reducible refine below_drewN ?_ _) | ((with_reducible refine Below.trans ?_ (Below.mono (by with_reducible assumption) ?hsz)); (case hsz => (first | omega | (simp; done) | (simp; omega) | (simp at *; omega)))))))) ((hx0.keep hB).keep (by (repeat (first | (with_reducible assumption) | (with_reducible exact Below.refl _ _) | ((with_reducible refine Below.alloc ?_ ?hsz _); (case hsz => (first | omega | (simp; done) | (simp; omega) | (simp at *; omega)))) | ((with_reducible refine Below.setCell ?_ ?hsz _); (case hsz => (first | omega | (simp; done) | (simp; omega) | (simp at *; omega)))) | (with_reducible refine Below.drew ?_) | (with_reducible refine below_drewN ?_ _) | ((with_reducible refine Below.trans ?_ (Below.mono (by with_reducible assumption) ?hsz)); (case hsz => (first | omega | (simp; done) | (simp; omega) | (simp at *; omega)))))))) Hok.out).mono ?_
      rintro e w1 ⟨rfl, hb1⟩
      go_wp2
      go_ret
      exact ⟨ret_bool Hr.out.symm, by (repeat (first | (with_reducible assumption) | (with_reducible exact Below.refl _ _) | ((with_reducible refine Below.alloc ?_ ?hsz _); (case hsz => (first | omega | (simp; done) | (simp; omega) | (simp at *; omega)))) | ((with_reducible refine Below.setCell ?_ ?hsz _); (case hsz => (first | omega | (simp; done) | (simp; omega) | (simp at *; omega)))) | (with_reducible refine Below.drew ?_) | (with_reducible refine below_drewN ?_ _) | ((with_reducible refine Below.trans ?_ (Below.mono (by with_reducible assumption) ?hsz)); (case hsz => (first | omega | (simp; done) | (simp; omega) | (simp at *; omega))))))⟩

theorem Apart.app {vs us : List Value} {B : Nat} (h : Apart vs) (h' : Apart us) (h1 : ∀ i (h : i < vs.length) q, vs[i].ownBlock = some q → q < B) (h2 : ∀ i (h : i < us.length) q, us[i].ownBlock = some q → B ≤ q) : Apart (vs ++ us) := by
  intro i j hij hj
  have hjl : j < vs.length + us.length := by simpa using hj
  by_cases hjv : j < vs.length
  · have ei : (vs ++ us)[i]'(by simp; omega) = vs[i]'(by omega) := List.getElem_append_left (by omega)
    have ej : (vs ++ us)[j] = vs[j] := List.getElem_append_left hjv
    rw [ei, ej]
    exact h i j hij hjv
  · have ej : (vs ++ us)[j] = us[j - vs.length]'(by omega) := List.getElem_append_right (by omega)
    by_cases hiv : i < vs.length
    · have ei : (vs ++ us)[i]'(by simp; omega) = vs[i] := List.getElem_append_left hiv
      rw [ei, ej]
      cases hv : vs[i].ownBlock with
      | none => exact .inl rfl
      | some k =>
        refine .inr fun he => ?_
        have a1 := h1 i hiv k hv
        have a2 := h2 (j - vs.length) (by omega) k he.symm
        omega
    · have ei : (vs ++ us)[i]'(by simp; omega) = us[i - vs.length]'(by omega) := List.getElem_append_right (by omega)
      rw [ei, ej]
      exact h' (i - vs.length) (j - vs.length) (by omega) (by omega)

theorem rows_appV {w w6 : World} {b : Nat} {v2 v6 : Value} {Ls Ms : List (List Int)} {vs us : List Value} (h1 : vs.length = Ls.length) (h1' : us.length = Ms.length) (h2 : w.ownsRow b 26 1 v2 Ls.length vs)
    (h4 : ∀ k (h : k < Ls.length) (h' : k < vs.length), Ints w b vs[k] Ls[k]) (h4' : ∀ k (h : k < Ms.length) (h' : k < us.length), Ints w b us[k] Ms[k]) (hap : Apart (vs ++ us)) (hs : Ls.length + Ms.length ≤ small) (hg : w.grownBy w6 v2.ownBlock)
    (ho : w6.ownsRow b 26 1 v6 (Ls.length + Ms.length) (vs ++ us)) : OwnRowsV w6 b v6 (Ls ++ Ms) := by
  have hl : (Ls ++ Ms).length = Ls.length + Ms.length := by simp
  refine ⟨vs ++ us, by simp [h1, h1'], by rw [hl]; exact ho, by rw [hl]; exact hs, fun k hk hk' => ?_, hap⟩
  by_cases hlt : k < Ls.length
  · have e1 : (vs ++ us)[k] = vs[k]'(by omega) := List.getElem_append_left (by omega)
    have e2 : (Ls ++ Ms)[k] = Ls[k] := List.getElem_append_left hlt
    rw [e1, e2]
    exact (h4 k hlt (by omega)).otherV h2 hg
  · have hk2 : k < Ls.length + Ms.length := by rw [hl] at hk; exact hk
    have e1 : (vs ++ us)[k] = us[k - vs.length]'(by omega) := List.getElem_append_right (by omega)
    have e2 : (Ls ++ Ms)[k] = Ms[k - Ls.length]'(by omega) := List.getElem_append_right (by omega)
    have e3 : us[k - vs.length]'(by omega) = us[k - Ls.length]'(by omega) := by congr 1; omega
    rw [e1, e2, e3]
    exact (h4' (k - Ls.length) (by omega) (by omega)).otherV h2 hg

theorem rows_src {w : World} {b n : Nat} {v : Value} {vs : List Value} {Ls : List (List Int)} (h : w.ownsRow b 26 1 v n vs) (h1 : vs.length = Ls.length) (h4 : ∀ k (h : k < Ls.length) (h' : k < vs.length), Ints w b vs[k] Ls[k]) : SrcOk w 1 v n vs :=
  own_src h fun u hu => by
    obtain ⟨k, hk, rfl⟩ := List.getElem_of_mem hu
    obtain ⟨A, c, e, -⟩ := (h4 k (by omega) hk).form
    rw [e]
    rfl

theorem OwnRowsV.mono {w : World} {b b' : Nat} {v : Value} {Ls : List (List Int)} (h : OwnRowsV w b v Ls) (hb : b' ≤ b) : OwnRowsV w b' v Ls := by
  obtain ⟨vs, h1, h2, h3, h4, h5⟩ := h
  exact ⟨vs, h1, own_mono h2 hb, h3, fun k hk hk' => (h4 k hk hk').mono hb, h5⟩
theorem parts_on {ps : List Pp} {a b left : Int} {xs : List Int} {f : Nat} (h : 0 < left) : partsP ps a b (f + 1) left xs = (partD ps xs a b left :: natsI (partP ps xs a b)) :: partsP ps a b f (partL ps xs a b left) (lessP (partD ps xs a b left) xs (partP ps xs a b)) := by rw [partsP, if_pos h]
theorem parts_off {ps : List Pp} {a b left : Int} {xs : List Int} {f : Nat} (h : ¬ 0 < left) : partsP ps a b (f + 1) left xs = ringsL ps xs := by rw [partsP, if_neg h]
theorem parts_yes {n a b : Int} {ps : List Pp} {xs : List Int} (h : partsOkB n ps xs a b = true) : partsR n ps xs a b = partsP ps a b 10 (exc b ps xs) xs := by rw [partsR, if_pos h]
theorem parts_no {n a b : Int} {ps : List Pp} {xs : List Int} (h : partsOkB n ps xs a b = false) : partsR n ps xs a b = [] := by rw [partsR, if_neg (by simp [h])]

set_option maxHeartbeats 4000000 in
set_option maxRecDepth 20000 in
theorem partsIn_any (n i j : Int) (v u : Value) (ps : List Pp) (xs : List Int) (b b' : Nat) (w : World) (hp : Pipes w b v ps) (hx : Ints w b' u xs) (hok : partsOkB n ps xs i j = true) :
    Calls Try.prog 28 #[.agg #[.int .i64 n, v], u, .int .i64 i, .int .i64 j] w fun e w' => ∃ r, e = .returned (.tuple #[r, .bool true]) ∧ OwnRowsV w' w.heap.size r (partsR n ps xs i j) ∧ Below w.heap.size w w' := by
  have hp0 := hp
  have hx0 := hx
  obtain ⟨A, c, rfl, -, -, -, -⟩ := hp.form
  obtain ⟨A0, c0, rfl, -, -, -, -⟩ := hx.form
  obtain ⟨hst, hl0⟩ := PartSt.of hok
  have Hyes := Lib.hid (parts_yes hok)
  have hok' := hok
  simp only [partsOkB, Bool.and_eq_true] at hok'
  obtain ⟨⟨hfl, he⟩, hfb⟩ := hok'
  obtain ⟨hn, hlen, -⟩ := flowOk_parts hfl
  obtain ⟨n2, n5, hl7, hpo⟩ := netOk_parts hn
  have hpos : leftN2 xs (exc j ps xs) < 10 := by
    have := pos_le (xs := xs)
    unfold leftN2
    split <;> omega
  obtain ⟨-, i0, i1, j0, j1, hij⟩ := ends_parts he
  obtain ⟨iS, hiS, hS0, hS1, hS2⟩ := info_parts ints_info
  have HP := Lib.hid (And.intro hn (And.intro hl7 (And.intro hst (And.intro hl0 (And.intro hpos hfl)))))
  have bx0 := Box2.new w (.int .i64 n) (.slice A ps.length c) 25
  clear hok hst hl0 hpos hlen hn hpo
  go_enter Try.func28, Try.ntmps28
  go_wp2_with fail
  refine (flowOk_any n _ _ ps xs b b' _ (hp0.keep (by (repeat (first | (with_reducible assumption) | (with_reducible exact Below.refl _ _) | ((with_reducible refine Below.alloc ?_ ?hsz _); (case hsz => (first | omega | (simp; done) | (simp; omega) | (simp at *; omega)))) | ((with_reducible refine Below.setCell ?_ ?hsz _); (case hsz => (first | omega | (simp; done) | (simp; omega) | (simp at *; omega)))) | (with_reducible refine Below.drew ?_) | (with_reducible refine below_drewN ?_ _) | ((with_reducible refine Below.trans ?_ (Below.mono (by with_reducible assumption) ?hsz)); (case hsz => (first | omega | (simp; done) | (simp; omega) | (simp at *; omega)))))))) (hx0.keep (by (repeat (first | (with_reducible assumption) | (with_reducible exact Below.refl _ _) | ((with_reducible refine Below.alloc ?_ ?hsz _); (case hsz => (first | omega | (simp; done) | (simp; omega) | (simp at *; omega)))) | ((with_reducible refine Below.setCell ?_ ?hsz _); (case hsz => (first | omega | (simp; done) | (simp; omega) | (simp at *; omega)))) | (with_reducible refine Below.drew ?_) | (with_reducible refine below_drewN ?_ _) | ((with_reducible refine Below.trans ?_ (Below.mono (by with_reducible assumption) ?hsz)); (case hsz => (first | omega | (simp; done) | (simp; omega) | (simp at *; omega))))))))).mono ?_
  rintro e w1 ⟨rfl, hb1⟩
  rw [hfl]
  have bx1 := bx0.keep hb1
  have hB1 : Below w.heap.size w w1 := by (repeat (first | (with_reducible assumption) | (with_reducible exact Below.refl _ _) | ((with_reducible refine Below.alloc ?_ ?hsz _); (case hsz => (first | omega | (simp; done) | (simp; omega) | (simp at *; omega)))) | ((with_reducible refine Below.setCell ?_ ?hsz _); (case hsz => (first | omega | (simp; done) | (simp; omega) | (simp at *; omega)))) | (with_reducible refine Below.drew ?_) | (with_reducible refine below_drewN ?_ _) | ((with_reducible refine Below.trans ?_ (Below.mono (by with_reducible assumption) ?hsz)); (case hsz => (first | omega | (simp; done) | (simp; omega) | (simp at *; omega))))))
  clear bx0 hb1
  obtain ⟨bs, d0, d1, -, -⟩ := id bx1
  go_wp2_with fail
  refine (endsOk_any n i j _ ps b _ ((hp0.keep hB1).keep (by (repeat (first | (with_reducible assumption) | (with_reducible exact Below.refl _ _) | ((with_reducible refine Below.alloc ?_ ?hsz _); (case hsz => (first | omega | (simp; done) | (simp; omega) | (simp at *; omega)))) | ((with_reducible refine Below.setCell ?_ ?hsz _); (case hsz => (first | omega | (simp; done) | (simp; omega) | (simp at *; omega)))) | (with_reducible refine Below.drew ?_) | (with_reducible refine below_drewN ?_ _) | ((with_reducible refine Below.trans ?_ (Below.mono (by with_reducible assumption) ?hsz)); (case hsz => (first | omega | (simp; done) | (simp; omega) | (simp at *; omega))))))))).mono ?_
  rintro e w2 ⟨rfl, hb2⟩
  rw [he]
  have bx2 := bx1.keep hb2
  have hB2 : Below w.heap.size w w2 := by (repeat (first | (with_reducible assumption) | (with_reducible exact Below.refl _ _) | ((with_reducible refine Below.alloc ?_ ?hsz _); (case hsz => (first | omega | (simp; done) | (simp; omega) | (simp at *; omega)))) | ((with_reducible refine Below.setCell ?_ ?hsz _); (case hsz => (first | omega | (simp; done) | (simp; omega) | (simp at *; omega)))) | (with_reducible refine Below.drew ?_) | (with_reducible refine below_drewN ?_ _) | ((with_reducible refine Below.trans ?_ (Below.mono (by with_reducible assumption) ?hsz)); (case hsz => (first | omega | (simp; done) | (simp; omega) | (simp at *; omega))))))
  clear bx1 hb2 d0 d1 bs
  obtain ⟨bs, d0, d1, -, -⟩ := id bx2
  go_wp2_with fail
  refine (flowsBetween_any n i j _ _ ps xs b b' _ ((hp0.keep hB2).keep (by (repeat (first | (with_reducible assumption) | (with_reducible exact Below.refl _ _) | ((with_reducible refine Below.alloc ?_ ?hsz _); (case hsz => (first | omega | (simp; done) | (simp; omega) | (simp at *; omega)))) | ((with_reducible refine Below.setCell ?_ ?hsz _); (case hsz => (first | omega | (simp; done) | (simp; omega) | (simp at *; omega)))) | (with_reducible refine Below.drew ?_) | (with_reducible refine below_drewN ?_ _) | ((with_reducible refine Below.trans ?_ (Below.mono (by with_reducible assumption) ?hsz)); (case hsz => (first | omega | (simp; done) | (simp; omega) | (simp at *; omega)))))))) ((hx0.keep hB2).keep (by (repeat (first | (with_reducible assumption) | (with_reducible exact Below.refl _ _) | ((with_reducible refine Below.alloc ?_ ?hsz _); (case hsz => (first | omega | (simp; done) | (simp; omega) | (simp at *; omega)))) | ((with_reducible refine Below.setCell ?_ ?hsz _); (case hsz => (first | omega | (simp; done) | (simp; omega) | (simp at *; omega)))) | (with_reducible refine Below.drew ?_) | (with_reducible refine below_drewN ?_ _) | ((with_reducible refine Below.trans ?_ (Below.mono (by with_reducible assumption) ?hsz)); (case hsz => (first | omega | (simp; done) | (simp; omega) | (simp at *; omega)))))))) hfl).mono ?_
  rintro e w3 ⟨rfl, hb3⟩
  rw [hfb]
  have bx3 := bx2.keep hb3
  have hB3 : Below w.heap.size w w3 := by (repeat (first | (with_reducible assumption) | (with_reducible exact Below.refl _ _) | ((with_reducible refine Below.alloc ?_ ?hsz _); (case hsz => (first | omega | (simp; done) | (simp; omega) | (simp at *; omega)))) | ((with_reducible refine Below.setCell ?_ ?hsz _); (case hsz => (first | omega | (simp; done) | (simp; omega) | (simp at *; omega)))) | (with_reducible refine Below.drew ?_) | (with_reducible refine below_drewN ?_ _) | ((with_reducible refine Below.trans ?_ (Below.mono (by with_reducible assumption) ?hsz)); (case hsz => (first | omega | (simp; done) | (simp; omega) | (simp at *; omega))))))
  clear bx2 hb3 d0 d1 bs hfb he
  obtain ⟨bs, d0, d1, -, -⟩ := id bx3
  go_wp2_with fail
  refine (excessOf_any j n _ _ ps xs b b' _ ((hp0.keep hB3).keep (by (repeat (first | (with_reducible assumption) | (with_reducible exact Below.refl _ _) | ((with_reducible refine Below.alloc ?_ ?hsz _); (case hsz => (first | omega | (simp; done) | (simp; omega) | (simp at *; omega)))) | ((with_reducible refine Below.setCell ?_ ?hsz _); (case hsz => (first | omega | (simp; done) | (simp; omega) | (simp at *; omega)))) | (with_reducible refine Below.drew ?_) | (with_reducible refine below_drewN ?_ _) | ((with_reducible refine Below.trans ?_ (Below.mono (by with_reducible assumption) ?hsz)); (case hsz => (first | omega | (simp; done) | (simp; omega) | (simp at *; omega)))))))) ((hx0.keep hB3).keep (by (repeat (first | (with_reducible assumption) | (with_reducible exact Below.refl _ _) | ((with_reducible refine Below.alloc ?_ ?hsz _); (case hsz => (first | omega | (simp; done) | (simp; omega) | (simp at *; omega)))) | ((with_reducible refine Below.setCell ?_ ?hsz _); (case hsz => (first | omega | (simp; done) | (simp; omega) | (simp at *; omega)))) | (with_reducible refine Below.drew ?_) | (with_reducible refine below_drewN ?_ _) | ((with_reducible refine Below.trans ?_ (Below.mono (by with_reducible assumption) ?hsz)); (case hsz => (first | omega | (simp; done) | (simp; omega) | (simp at *; omega)))))))) hfl).mono ?_
  rintro e w4 ⟨rfl, hb4⟩
  have bx4 := bx3.keep hb4
  have hB4 : Below w.heap.size w w4 := by (repeat (first | (with_reducible assumption) | (with_reducible exact Below.refl _ _) | ((with_reducible refine Below.alloc ?_ ?hsz _); (case hsz => (first | omega | (simp; done) | (simp; omega) | (simp at *; omega)))) | ((with_reducible refine Below.setCell ?_ ?hsz _); (case hsz => (first | omega | (simp; done) | (simp; omega) | (simp at *; omega)))) | (with_reducible refine Below.drew ?_) | (with_reducible refine below_drewN ?_ _) | ((with_reducible refine Below.trans ?_ (Below.mono (by with_reducible assumption) ?hsz)); (case hsz => (first | omega | (simp; done) | (simp; omega) | (simp at *; omega))))))
  clear bx3 hb4 d0 d1 bs hfl
  obtain ⟨lf0, hlf⟩ : ∃ l, exc j ps xs = l := ⟨_, rfl⟩
  have HLF := Lib.hid hlf
  rw [hlf] at Hyes ⊢
  clear hlf
  go_wp2
  go_loopw [1, 10, 11] (fun t1 t10 t11 wr => ∃ (f N k5 : Nat) (A5 : Option Addr) (Ls : List (List Int)) (ys : List Int) (bf : Nat) (fl : Value) (left : Int), t1 = fl ∧ Ints wr bf fl ys ∧ PartSt n ps ys i j left ∧ 0 ≤ left ∧ leftN2 ys left < f ∧ Ls.length + f ≤ 10 ∧ N = Ls.length ∧ t10 = .slice A5 N k5 ∧ OwnRowsV wr (w.heap.size + 1) (.slice A5 N k5) Ls ∧ Ls ++ partsP ps i j f left ys = partsR n ps xs i j ∧ t11 = .int .i64 left ∧ Box2 wr w.heap.size (.int .i64 n) (.slice A ps.length c) ∧ Below w.heap.size w wr) (fun _ t10 _ _ => 11 - sliceLen t10)
  case atStart => exact ⟨10, 0, 0, none, [], xs, b', _, lf0, rfl, hx0.keep hB4, by rw [← HLF.out]; exact HP.out.2.2.1, by rw [← HLF.out]; exact HP.out.2.2.2.1, by rw [← HLF.out]; exact HP.out.2.2.2.2.1, by simp, rfl, rfl, OwnRowsV.none_ _ _, by rw [Hyes.out]; rfl, rfl, bx4, hB4⟩
  case round =>
    clear hB1 hB2 hB3 bx4 hB4 hx0 hx
    obtain ⟨f, N, k5, A5, Ls, ys, bf, fl, left, rfl, hy, hst, hl0, hpf, hLf, hN, rfl, hO, hcat, rfl, bx, hB⟩ := hrel
    obtain ⟨AY, cY, rfl, hcy1, hcy2, -, -⟩ := hy.form
    unfold maxLen at hcy2
    have hyl := (flowOk_parts hst.flow).2.1
    have hyb := flow_getD hst.flow
    obtain ⟨f, rfl⟩ : ∃ f', f = f' + 1 := ⟨f - 1, by omega⟩
    have HY := Lib.hid (And.intro hst (And.intro hpf (And.intro hLf (And.intro hN (And.intro hcat (And.intro hyl hyb))))))
    have Hl0 := Lib.hid hl0
    rw [hyl] at hcy1 hy ⊢
    have hzb := hB.size
    obtain ⟨bs, d0, d1, -, -⟩ := id bx
    have hbw := bs
    clear hst hpf hLf hN hcat hyl hyb hl0
    by_cases hleft : 0 < left
    · have hld : decide (0 < left) = true := decide_eq_true hleft
      obtain ⟨sne, snd, sop, s6, sD0, sD40, sL0, sst, sM⟩ := HY.out.1.step hleft
      have hnx : ∀ v, (v = i ∨ ∃ k, k < ps.length ∧ (ps.getD k zeroPp).to = v ∧ 0 < ys.getD k 0) → v ≠ j → ∃ q, nextP ps ys v = some q := HY.out.1.next hleft
      have HNX := Lib.hid hnx
      clear hnx
      have HON := Lib.hid (parts_on (ps := ps) (a := i) (b := j) (xs := ys) (f := f) hleft)
      have sl1 := List.length_pos_iff.2 sne
      have hps : 0 < ps.length := by obtain ⟨q, hq⟩ := List.exists_mem_of_ne_nil _ sne; have := (sop q hq).1; omega
      have hlft : left ≤ 280 := by
        have h1 := exc_bd j ps ys (flowOk_parts HY.out.1.flow).2.2
        rw [HY.out.1.left] at h1
        have := HP.out.2.1
        omega
      have hDdef : (partD ps ys i j left = if 0 ≤ (walkP ps ys i j).2 then leastP ys (partP ps ys i j) else min (leastP ys (partP ps ys i j)) left) ∧ (partL ps ys i j left = if 0 ≤ (walkP ps ys i j).2 then left else left - partD ps ys i j left) := ⟨rfl, rfl⟩
      have hPdef : partP ps ys i j = (walkP ps ys i j).1.drop (walkP ps ys i j).2.toNat := rfl
      obtain ⟨PT, hPT⟩ : ∃ PT, partP ps ys i j = PT := ⟨_, rfl⟩
      obtain ⟨D, hD⟩ : ∃ D, partD ps ys i j left = D := ⟨_, rfl⟩
      obtain ⟨L2, hL2⟩ : ∃ L2, partL ps ys i j left = L2 := ⟨_, rfl⟩
      rw [hPT] at sne snd sop s6 sst sM sl1 hDdef hPdef HON
      rw [hD] at sD0 sD40 sst sM hDdef HON
      rw [hL2] at sL0 sst sM hDdef HON
      have HS := Lib.hid (And.intro snd (And.intro sop (And.intro sst (And.intro sM (And.intro hDdef sL0)))))
      clear sne snd sop sst sM hDdef hPT hD hL2 sL0
      go_wp2_with fail
      with_reducible refine (partFrom_any n i j _ _ ps ys b bf _ ((hp0.keep hB).keep (by (repeat (first | (with_reducible assumption) | (with_reducible exact Below.refl _ _) | ((with_reducible refine Below.alloc ?_ ?hsz _); (case hsz => (first | omega | (simp; done) | (simp; omega) | (simp at *; omega)))) | ((with_reducible refine Below.setCell ?_ ?hsz _); (case hsz => (first | omega | (simp; done) | (simp; omega) | (simp at *; omega)))) | (with_reducible refine Below.drew ?_) | (with_reducible refine below_drewN ?_ _) | ((with_reducible refine Below.trans ?_ (Below.mono (by with_reducible assumption) ?hsz)); (case hsz => (first | omega | (simp; done) | (simp; omega) | (simp at *; omega)))))))) (hy.keep (by (repeat (first | (with_reducible assumption) | (with_reducible exact Below.refl _ _) | ((with_reducible refine Below.alloc ?_ ?hsz _); (case hsz => (first | omega | (simp; done) | (simp; omega) | (simp at *; omega)))) | ((with_reducible refine Below.setCell ?_ ?hsz _); (case hsz => (first | omega | (simp; done) | (simp; omega) | (simp at *; omega)))) | (with_reducible refine Below.drew ?_) | (with_reducible refine below_drewN ?_ _) | ((with_reducible refine Below.trans ?_ (Below.mono (by with_reducible assumption) ?hsz)); (case hsz => (first | omega | (simp; done) | (simp; omega) | (simp at *; omega)))))))) HY.out.2.2.2.2.2.1 HP.out.1 i0 i1 hij HNX.out).mono ?_
      rintro e w5 ⟨r7, rfl, hL, hown7, hb5⟩
      rw [← hPdef] at hL
      have bx5 := bx.keep hb5
      have hy5 := hy.keep hb5
      have hO5 := hO.keep hb5
      have hB5 : Below w.heap.size w w5 := hB.trans (hb5.mono hzb)
      have hs5 := hb5.size
      have hz5 := hB5.size
      obtain ⟨vs1, -, u2, -, -⟩ := id hO
      have hlow : ∀ q, (Value.slice A5 N k5).ownBlock = some q → w.heap.size + 1 ≤ q ∧ q < wr.heap.size := fun q hq => u2.lt q hq
      have HLW := Lib.hid hlow
      have hml : (natsI PT).length = PT.length := by simp
      clear hb5 hy hO bx d0 d1 bs u2 hlow hPdef
      obtain ⟨bs, d0, d1, -, -⟩ := id bx5
      obtain ⟨g7, o7, c7, rfl, -⟩ := id hL
      rw [hml] at hL hown7 ⊢
      go_wp2_with fail
      with_reducible refine (leastIn_any _ _ PT ys bf _ hy5 hL (fun q hq => by have := (HS.out.2.1 q hq).1; rw [HY.out.2.2.2.2.2.1]; exact this) s6).mono ?_
      rintro e w6 ⟨rfl, hb6⟩
      have bx6 := bx5.keep hb6
      have hy6 := hy5.keep hb6
      have hO6 := hO5.keep hb6
      have hL6 := hL.keep hb6
      have hB6 : Below w.heap.size w w6 := hB5.trans (hb6.mono hz5)
      have hs6 := hb6.size
      have hz6 := hB6.size
      clear hb6 hy5 hO5 hL bx5 d0 d1 bs
      obtain ⟨bs, d0, d1, -, -⟩ := id bx6
      obtain ⟨cl, hcl⟩ : ∃ cl : Bool, decide (0 ≤ (walkP ps ys i j).2) = cl := ⟨_, rfl⟩
      have HCL := Lib.hid hcl
      rw [hcl]
      obtain ⟨lst, hlst⟩ : ∃ lst, leastP ys PT = lst := ⟨_, rfl⟩
      have hD1 : D = if cl = true then lst else min lst left := by
        have := HS.out.2.2.2.2.1.1
        rw [← hlst, this, ← hcl]
        simp only [decide_eq_true_eq]
      have hD2 : L2 = if cl = true then left else left - D := by
        have := HS.out.2.2.2.2.1.2
        rw [this, ← hcl]
        simp only [decide_eq_true_eq]
      rw [hlst]
      have hlb : lst ≤ 40 := by
        rw [← hlst]
        exact (leastF (xs := ys) PT 40).1
      have hlb0 : -1000 ≤ lst := by
        rcases cl with _ | _
        · simp at hD1; omega
        · simp at hD1; omega
      have HD := Lib.hid (And.intro hD1 hD2)
      clear hlst hcl hD1 hD2
      rcases cl with _ | _
      · by_cases hm : left < lst
        · have eD : D = left := by have := HD.out.1; simp at this; omega
          have eL : L2 = left - left := by have := HD.out.2; simp at this; omega
          have hmin : ¬ lst ≤ left := by omega
          subst eD
          go_wp2_with fail
          with_reducible refine (partRow_any _ _ (natsI PT) _ hL6 (by rw [hml]; exact Nat.succ_le_of_lt sl1) (by rw [hml]; exact s6)).mono ?_
          rintro e w7 ⟨rP, rfl, hI7, hb7⟩
          have bx7 := bx6.keep hb7
          have hy7 := hy6.keep hb7
          have hL7 := hL6.keep hb7
          have hB7 : Below w.heap.size w w7 := hB6.trans (hb7.mono hz6)
          have hs7 := hb7.size
          have hz7 := hB7.size
          obtain ⟨vs, v1, v2, v3, v4, v5⟩ := id hO6
          have VAP := Lib.hid (v5.snoc (B := w6.heap.size) (fun i h q hq => ((v4 i (by omega) h).1.lt q hq).2) (fun q hq => (hI7.1.lt q hq).1))
          replace v2 := own_keep v2 (Nat.le_refl _) hb7
          replace v4 : ∀ k (h : k < Ls.length) (h' : k < vs.length), Ints w7 (w.heap.size + 1) vs[k] Ls[k] := fun k hk hk' => (v4 k hk hk').keep hb7
          clear v5
          obtain ⟨A6, c6, rfl, -, -, -, -⟩ := hI7.form
          obtain ⟨M6, hM6⟩ : ∃ M6, (D :: natsI PT).length = M6 := ⟨_, rfl⟩
          rw [hM6] at hI7 VAP ⊢
          have V4 := Lib.hid v4
          have V1 := Lib.hid v1
          have hN := HY.out.2.2.2.1
          have hLf := HY.out.2.2.1
          rw [← hN] at v2 v3 hLf
          have hrow : ∀ q', (Value.slice A5 N k5).ownBlock = some q' → w.heap.size + 1 ≤ q' := fun q' hq => (v2.lt q' hq).1
          clear hM6 hb7 hy6 hO6 hL6 bx6 d0 d1 bs v4 v1 hN
          go_wp2_with (first
            | (at_builtin
               go_must (refine wpList_append_lies _ rfl _ _ 32 rfl (w.heap.size + 1) 26 iS _ 1 24 Try.underlying32 hiS hS0 hS1 hS2 rfl (by omega) (.slice A5 N k5) N vs rfl (v2.alloc _) ⟨w7.heap.size, 0, none⟩ 1 1 [.slice A6 M6 c6] rfl rfl (World.news_of_block (cs := #[.slice A6 M6 c6]) (t := 26) (fr := (0, 0)) (heap_alloc_new _ _)) (by simp [Value.oneCell']) (by omega) (by unfold maxLen; omega) (by omega) (by simp; omega) _ rfl ?_)
               intro g5 k6 w8 hown8 hgr8 hat8 hlt8))
          have v2a := v2.alloc (.cells #[.slice A6 M6 c6] 26)
          have hB8 : Below w.heap.size w7 w8 := Below.grown (w := w7.alloc (.cells #[.slice A6 M6 c6] 26)) (by (repeat (first | (with_reducible assumption) | (with_reducible exact Below.refl _ _) | ((with_reducible refine Below.alloc ?_ ?hsz _); (case hsz => (first | omega | (simp; done) | (simp; omega) | (simp at *; omega)))) | ((with_reducible refine Below.setCell ?_ ?hsz _); (case hsz => (first | omega | (simp; done) | (simp; omega) | (simp at *; omega)))) | (with_reducible refine Below.drew ?_) | (with_reducible refine below_drewN ?_ _) | ((with_reducible refine Below.trans ?_ (Below.mono (by with_reducible assumption) ?hsz)); (case hsz => (first | omega | (simp; done) | (simp; omega) | (simp at *; omega))))))) hgr8 (by (first | omega | (simp; done) | (simp; omega) | (simp at *; omega))) (fun q hq => by have := hrow q hq; omega)
          have hBw8 : Below w.heap.size w w8 := hB7.trans hB8
          have bx8 := (bx7.keep (w' := w7.alloc (.cells #[.slice A6 M6 c6] 26)) (by (repeat (first | (with_reducible assumption) | (with_reducible exact Below.refl _ _) | ((with_reducible refine Below.alloc ?_ ?hsz _); (case hsz => (first | omega | (simp; done) | (simp; omega) | (simp at *; omega)))) | ((with_reducible refine Below.setCell ?_ ?hsz _); (case hsz => (first | omega | (simp; done) | (simp; omega) | (simp at *; omega)))) | (with_reducible refine Below.drew ?_) | (with_reducible refine below_drewN ?_ _) | ((with_reducible refine Below.trans ?_ (Below.mono (by with_reducible assumption) ?hsz)); (case hsz => (first | omega | (simp; done) | (simp; omega) | (simp at *; omega)))))))).grown hgr8 (fun e => by have := hrow _ e.symm; omega)
          have hy8 := (hy7.alloc1 (.cells #[.slice A6 M6 c6] 26)).otherV v2a hgr8
          have hI8' := (hI7.mono (b' := w.heap.size + 1) (by omega)).alloc1 (.cells #[.slice A6 M6 c6] 26)
          have hN := HY.out.2.2.2.1
          have hO8 : OwnRowsV w8 (w.heap.size + 1) (.slice (some ⟨g5, 0, none⟩) (Ls.length + 1) k6) (Ls ++ [D :: natsI PT]) := rows_snocV V1.out (by rw [← hN]; exact v2a) (fun k hk hk' => (V4.out k hk hk').alloc1 _) hI8' VAP.out (by unfold small; omega) hgr8 (by rw [← hN]; exact hown8)
          have hL8 := (hL7.keep (w' := w7.alloc (.cells #[.slice A6 M6 c6] 26)) (by (repeat (first | (with_reducible assumption) | (with_reducible exact Below.refl _ _) | ((with_reducible refine Below.alloc ?_ ?hsz _); (case hsz => (first | omega | (simp; done) | (simp; omega) | (simp at *; omega)))) | ((with_reducible refine Below.setCell ?_ ?hsz _); (case hsz => (first | omega | (simp; done) | (simp; omega) | (simp at *; omega)))) | (with_reducible refine Below.drew ?_) | (with_reducible refine below_drewN ?_ _) | ((with_reducible refine Below.trans ?_ (Below.mono (by with_reducible assumption) ?hsz)); (case hsz => (first | omega | (simp; done) | (simp; omega) | (simp at *; omega)))))))).far hgr8 (fun q hq e => by have h1 := hown7 q hq; have h2 := (HLW.out q e.symm).2; omega)
          rw [← hN] at hO8
          clear hown8 hgr8 hat8 v2a hI8' hL7 hI7 hy7 hN bx7
          obtain ⟨bs, d0, d1, -, -⟩ := id bx8
          go_wp2_with fail
          with_reducible refine (takenOut_any D _ _ PT ys bf _ hy8 hL8 (fun q hq => by have := (HS.out.2.1 q hq).1; rw [HY.out.2.2.2.2.2.1]; exact this) s6 HS.out.1 HY.out.2.2.2.2.2.2 (by omega) (by rw [HY.out.2.2.2.2.2.1]; omega)).mono ?_
          rintro e w9 ⟨r8, rfl, hr9, hb9⟩
          have bx9 := bx8.keep hb9
          have hO9 := hO8.keep hb9
          have hBw9 : Below w.heap.size w w9 := hBw8.trans (hb9.mono hBw8.size)
          have hN := HY.out.2.2.2.1
          have hfin : (Ls ++ [D :: natsI PT]) ++ partsP ps i j f L2 (lessP D ys PT) = partsR n ps xs i j := by
            rw [← HY.out.2.2.2.2.1, HON.out, List.append_assoc]
            simp
          have hM9 : leftN2 (lessP D ys PT) L2 < f := by
            have h1 := HS.out.2.2.2.1
            have h2 := HY.out.2.1
            omega
          have HNN := Lib.hid hN
          have HF := Lib.hid (And.intro hfin (And.intro hM9 eL))
          clear hO8 hb9 hN bx8 d0 d1 bs hfin hM9 eL
          obtain ⟨bs, d0, d1, -, -⟩ := id bx9
          go_wp2
          go_roundw
          case rel => exact ⟨f, N + 1, k6, some ⟨g5, 0, none⟩, Ls ++ [D :: natsI PT], lessP D ys PT, _, _, L2, rfl, hr9, HS.out.2.2.1, HS.out.2.2.2.2.2, HF.out.2.1, by have hN := HNN.out; rw [List.length_append, ← hN]; simp; omega, by rw [List.length_append, ← HNN.out]; rfl, rfl, hO9, HF.out.1, by (first | (rw [HF.out.2.2]; done) | (rw [HF.out.2.2]; simp)), bx9, hBw9⟩
          case measure => simp [sliceLen]; omega
        · have eD : lst = D := by have := HD.out.1; simp at this; omega
          subst eD
          have eL : L2 = left - lst := by have := HD.out.2; simp at this; omega
          have hmin : lst ≤ left := by omega
          go_wp2_with fail
          with_reducible refine (partRow_any _ _ (natsI PT) _ hL6 (by rw [hml]; exact Nat.succ_le_of_lt sl1) (by rw [hml]; exact s6)).mono ?_
          rintro e w7 ⟨rP, rfl, hI7, hb7⟩
          have bx7 := bx6.keep hb7
          have hy7 := hy6.keep hb7
          have hL7 := hL6.keep hb7
          have hB7 : Below w.heap.size w w7 := hB6.trans (hb7.mono hz6)
          have hs7 := hb7.size
          have hz7 := hB7.size
          obtain ⟨vs, v1, v2, v3, v4, v5⟩ := id hO6
          have VAP := Lib.hid (v5.snoc (B := w6.heap.size) (fun i h q hq => ((v4 i (by omega) h).1.lt q hq).2) (fun q hq => (hI7.1.lt q hq).1))
          replace v2 := own_keep v2 (Nat.le_refl _) hb7
          replace v4 : ∀ k (h : k < Ls.length) (h' : k < vs.length), Ints w7 (w.heap.size + 1) vs[k] Ls[k] := fun k hk hk' => (v4 k hk hk').keep hb7
          clear v5
          obtain ⟨A6, c6, rfl, -, -, -, -⟩ := hI7.form
          obtain ⟨M6, hM6⟩ : ∃ M6, (lst :: natsI PT).length = M6 := ⟨_, rfl⟩
          rw [hM6] at hI7 VAP ⊢
          have V4 := Lib.hid v4
          have V1 := Lib.hid v1
          have hN := HY.out.2.2.2.1
          have hLf := HY.out.2.2.1
          rw [← hN] at v2 v3 hLf
          have hrow : ∀ q', (Value.slice A5 N k5).ownBlock = some q' → w.heap.size + 1 ≤ q' := fun q' hq => (v2.lt q' hq).1
          clear hM6 hb7 hy6 hO6 hL6 bx6 d0 d1 bs v4 v1 hN
          go_wp2_with (first
            | (at_builtin
               go_must (refine wpList_append_lies _ rfl _ _ 32 rfl (w.heap.size + 1) 26 iS _ 1 24 Try.underlying32 hiS hS0 hS1 hS2 rfl (by omega) (.slice A5 N k5) N vs rfl (v2.alloc _) ⟨w7.heap.size, 0, none⟩ 1 1 [.slice A6 M6 c6] rfl rfl (World.news_of_block (cs := #[.slice A6 M6 c6]) (t := 26) (fr := (0, 0)) (heap_alloc_new _ _)) (by simp [Value.oneCell']) (by omega) (by unfold maxLen; omega) (by omega) (by simp; omega) _ rfl ?_)
               intro g5 k6 w8 hown8 hgr8 hat8 hlt8))
          have v2a := v2.alloc (.cells #[.slice A6 M6 c6] 26)
          have hB8 : Below w.heap.size w7 w8 := Below.grown (w := w7.alloc (.cells #[.slice A6 M6 c6] 26)) (by (repeat (first | (with_reducible assumption) | (with_reducible exact Below.refl _ _) | ((with_reducible refine Below.alloc ?_ ?hsz _); (case hsz => (first | omega | (simp; done) | (simp; omega) | (simp at *; omega)))) | ((with_reducible refine Below.setCell ?_ ?hsz _); (case hsz => (first | omega | (simp; done) | (simp; omega) | (simp at *; omega)))) | (with_reducible refine Below.drew ?_) | (with_reducible refine below_drewN ?_ _) | ((with_reducible refine Below.trans ?_ (Below.mono (by with_reducible assumption) ?hsz)); (case hsz => (first | omega | (simp; done) | (simp; omega) | (simp at *; omega))))))) hgr8 (by (first | omega | (simp; done) | (simp; omega) | (simp at *; omega))) (fun q hq => by have := hrow q hq; omega)
          have hBw8 : Below w.heap.size w w8 := hB7.trans hB8
          have bx8 := (bx7.keep (w' := w7.alloc (.cells #[.slice A6 M6 c6] 26)) (by (repeat (first | (with_reducible assumption) | (with_reducible exact Below.refl _ _) | ((with_reducible refine Below.alloc ?_ ?hsz _); (case hsz => (first | omega | (simp; done) | (simp; omega) | (simp at *; omega)))) | ((with_reducible refine Below.setCell ?_ ?hsz _); (case hsz => (first | omega | (simp; done) | (simp; omega) | (simp at *; omega)))) | (with_reducible refine Below.drew ?_) | (with_reducible refine below_drewN ?_ _) | ((with_reducible refine Below.trans ?_ (Below.mono (by with_reducible assumption) ?hsz)); (case hsz => (first | omega | (simp; done) | (simp; omega) | (simp at *; omega)))))))).grown hgr8 (fun e => by have := hrow _ e.symm; omega)
          have hy8 := (hy7.alloc1 (.cells #[.slice A6 M6 c6] 26)).otherV v2a hgr8
          have hI8' := (hI7.mono (b' := w.heap.size + 1) (by omega)).alloc1 (.cells #[.slice A6 M6 c6] 26)
          have hN := HY.out.2.2.2.1
          have hO8 : OwnRowsV w8 (w.heap.size + 1) (.slice (some ⟨g5, 0, none⟩) (Ls.length + 1) k6) (Ls ++ [lst :: natsI PT]) := rows_snocV V1.out (by rw [← hN]; exact v2a) (fun k hk hk' => (V4.out k hk hk').alloc1 _) hI8' VAP.out (by unfold small; omega) hgr8 (by rw [← hN]; exact hown8)
          have hL8 := (hL7.keep (w' := w7.alloc (.cells #[.slice A6 M6 c6] 26)) (by (repeat (first | (with_reducible assumption) | (with_reducible exact Below.refl _ _) | ((with_reducible refine Below.alloc ?_ ?hsz _); (case hsz => (first | omega | (simp; done) | (simp; omega) | (simp at *; omega)))) | ((with_reducible refine Below.setCell ?_ ?hsz _); (case hsz => (first | omega | (simp; done) | (simp; omega) | (simp at *; omega)))) | (with_reducible refine Below.drew ?_) | (with_reducible refine below_drewN ?_ _) | ((with_reducible refine Below.trans ?_ (Below.mono (by with_reducible assumption) ?hsz)); (case hsz => (first | omega | (simp; done) | (simp; omega) | (simp at *; omega)))))))).far hgr8 (fun q hq e => by have h1 := hown7 q hq; have h2 := (HLW.out q e.symm).2; omega)
          rw [← hN] at hO8
          clear hown8 hgr8 hat8 v2a hI8' hL7 hI7 hy7 hN bx7
          obtain ⟨bs, d0, d1, -, -⟩ := id bx8
          go_wp2_with fail
          with_reducible refine (takenOut_any lst _ _ PT ys bf _ hy8 hL8 (fun q hq => by have := (HS.out.2.1 q hq).1; rw [HY.out.2.2.2.2.2.1]; exact this) s6 HS.out.1 HY.out.2.2.2.2.2.2 (by omega) (by rw [HY.out.2.2.2.2.2.1]; omega)).mono ?_
          rintro e w9 ⟨r8, rfl, hr9, hb9⟩
          have bx9 := bx8.keep hb9
          have hO9 := hO8.keep hb9
          have hBw9 : Below w.heap.size w w9 := hBw8.trans (hb9.mono hBw8.size)
          have hN := HY.out.2.2.2.1
          have hfin : (Ls ++ [lst :: natsI PT]) ++ partsP ps i j f L2 (lessP lst ys PT) = partsR n ps xs i j := by
            rw [← HY.out.2.2.2.2.1, HON.out, List.append_assoc]
            simp
          have hM9 : leftN2 (lessP lst ys PT) L2 < f := by
            have h1 := HS.out.2.2.2.1
            have h2 := HY.out.2.1
            omega
          have HNN := Lib.hid hN
          have HF := Lib.hid (And.intro hfin (And.intro hM9 eL))
          clear hO8 hb9 hN bx8 d0 d1 bs hfin hM9 eL
          obtain ⟨bs, d0, d1, -, -⟩ := id bx9
          go_wp2
          go_roundw
          case rel => exact ⟨f, N + 1, k6, some ⟨g5, 0, none⟩, Ls ++ [lst :: natsI PT], lessP lst ys PT, _, _, L2, rfl, hr9, HS.out.2.2.1, HS.out.2.2.2.2.2, HF.out.2.1, by have hN := HNN.out; rw [List.length_append, ← hN]; simp; omega, by rw [List.length_append, ← HNN.out]; rfl, rfl, hO9, HF.out.1, by (first | (rw [HF.out.2.2]; done) | (rw [HF.out.2.2]; simp)), bx9, hBw9⟩
          case measure => simp [sliceLen]; omega
      · have eD : lst = D := by have := HD.out.1; simp at this; omega
        subst eD
        have eL : L2 = left := by have := HD.out.2; simpa using this
        go_wp2_with fail
        with_reducible refine (partRow_any _ _ (natsI PT) _ hL6 (by rw [hml]; exact Nat.succ_le_of_lt sl1) (by rw [hml]; exact s6)).mono ?_
        rintro e w7 ⟨rP, rfl, hI7, hb7⟩
        have bx7 := bx6.keep hb7
        have hy7 := hy6.keep hb7
        have hL7 := hL6.keep hb7
        have hB7 : Below w.heap.size w w7 := hB6.trans (hb7.mono hz6)
        have hs7 := hb7.size
        have hz7 := hB7.size
        obtain ⟨vs, v1, v2, v3, v4, v5⟩ := id hO6
        have VAP := Lib.hid (v5.snoc (B := w6.heap.size) (fun i h q hq => ((v4 i (by omega) h).1.lt q hq).2) (fun q hq => (hI7.1.lt q hq).1))
        replace v2 := own_keep v2 (Nat.le_refl _) hb7
        replace v4 : ∀ k (h : k < Ls.length) (h' : k < vs.length), Ints w7 (w.heap.size + 1) vs[k] Ls[k] := fun k hk hk' => (v4 k hk hk').keep hb7
        clear v5
        obtain ⟨A6, c6, rfl, -, -, -, -⟩ := hI7.form
        obtain ⟨M6, hM6⟩ : ∃ M6, (lst :: natsI PT).length = M6 := ⟨_, rfl⟩
        rw [hM6] at hI7 VAP ⊢
        have V4 := Lib.hid v4
        have V1 := Lib.hid v1
        have hN := HY.out.2.2.2.1
        have hLf := HY.out.2.2.1
        rw [← hN] at v2 v3 hLf
        have hrow : ∀ q', (Value.slice A5 N k5).ownBlock = some q' → w.heap.size + 1 ≤ q' := fun q' hq => (v2.lt q' hq).1
        clear hM6 hb7 hy6 hO6 hL6 bx6 d0 d1 bs v4 v1 hN
        go_wp2_with (first
          | (at_builtin
             go_must (refine wpList_append_lies _ rfl _ _ 32 rfl (w.heap.size + 1) 26 iS _ 1 24 Try.underlying32 hiS hS0 hS1 hS2 rfl (by omega) (.slice A5 N k5) N vs rfl (v2.alloc _) ⟨w7.heap.size, 0, none⟩ 1 1 [.slice A6 M6 c6] rfl rfl (World.news_of_block (cs := #[.slice A6 M6 c6]) (t := 26) (fr := (0, 0)) (heap_alloc_new _ _)) (by simp [Value.oneCell']) (by omega) (by unfold maxLen; omega) (by omega) (by simp; omega) _ rfl ?_)
             intro g5 k6 w8 hown8 hgr8 hat8 hlt8))
        have v2a := v2.alloc (.cells #[.slice A6 M6 c6] 26)
        have hB8 : Below w.heap.size w7 w8 := Below.grown (w := w7.alloc (.cells #[.slice A6 M6 c6] 26)) (by (repeat (first | (with_reducible assumption) | (with_reducible exact Below.refl _ _) | ((with_reducible refine Below.alloc ?_ ?hsz _); (case hsz => (first | omega | (simp; done) | (simp; omega) | (simp at *; omega)))) | ((with_reducible refine Below.setCell ?_ ?hsz _); (case hsz => (first | omega | (simp; done) | (simp; omega) | (simp at *; omega)))) | (with_reducible refine Below.drew ?_) | (with_reducible refine below_drewN ?_ _) | ((with_reducible refine Below.trans ?_ (Below.mono (by with_reducible assumption) ?hsz)); (case hsz => (first | omega | (simp; done) | (simp; omega) | (simp at *; omega))))))) hgr8 (by (first | omega | (simp; done) | (simp; omega) | (simp at *; omega))) (fun q hq => by have := hrow q hq; omega)
        have hBw8 : Below w.heap.size w w8 := hB7.trans hB8
        have bx8 := (bx7.keep (w' := w7.alloc (.cells #[.slice A6 M6 c6] 26)) (by (repeat (first | (with_reducible assumption) | (with_reducible exact Below.refl _ _) | ((with_reducible refine Below.alloc ?_ ?hsz _); (case hsz => (first | omega | (simp; done) | (simp; omega) | (simp at *; omega)))) | ((with_reducible refine Below.setCell ?_ ?hsz _); (case hsz => (first | omega | (simp; done) | (simp; omega) | (simp at *; omega)))) | (with_reducible refine Below.drew ?_) | (with_reducible refine below_drewN ?_ _) | ((with_reducible refine Below.trans ?_ (Below.mono (by with_reducible assumption) ?hsz)); (case hsz => (first | omega | (simp; done) | (simp; omega) | (simp at *; omega)))))))).grown hgr8 (fun e => by have := hrow _ e.symm; omega)
        have hy8 := (hy7.alloc1 (.cells #[.slice A6 M6 c6] 26)).otherV v2a hgr8
        have hI8' := (hI7.mono (b' := w.heap.size + 1) (by omega)).alloc1 (.cells #[.slice A6 M6 c6] 26)
        have hN := HY.out.2.2.2.1
        have hO8 : OwnRowsV w8 (w.heap.size + 1) (.slice (some ⟨g5, 0, none⟩) (Ls.length + 1) k6) (Ls ++ [lst :: natsI PT]) := rows_snocV V1.out (by rw [← hN]; exact v2a) (fun k hk hk' => (V4.out k hk hk').alloc1 _) hI8' VAP.out (by unfold small; omega) hgr8 (by rw [← hN]; exact hown8)
        have hL8 := (hL7.keep (w' := w7.alloc (.cells #[.slice A6 M6 c6] 26)) (by (repeat (first | (with_reducible assumption) | (with_reducible exact Below.refl _ _) | ((with_reducible refine Below.alloc ?_ ?hsz _); (case hsz => (first | omega | (simp; done) | (simp; omega) | (simp at *; omega)))) | ((with_reducible refine Below.setCell ?_ ?hsz _); (case hsz => (first | omega | (simp; done) | (simp; omega) | (simp at *; omega)))) | (with_reducible refine Below.drew ?_) | (with_reducible refine below_drewN ?_ _) | ((with_reducible refine Below.trans ?_ (Below.mono (by with_reducible assumption) ?hsz)); (case hsz => (first | omega | (simp; done) | (simp; omega) | (simp at *; omega)))))))).far hgr8 (fun q hq e => by have h1 := hown7 q hq; have h2 := (HLW.out q e.symm).2; omega)
        rw [← hN] at hO8
        clear hown8 hgr8 hat8 v2a hI8' hL7 hI7 hy7 hN bx7
        obtain ⟨bs, d0, d1, -, -⟩ := id bx8
        go_wp2_with fail
        with_reducible refine (takenOut_any lst _ _ PT ys bf _ hy8 hL8 (fun q hq => by have := (HS.out.2.1 q hq).1; rw [HY.out.2.2.2.2.2.1]; exact this) s6 HS.out.1 HY.out.2.2.2.2.2.2 (by omega) (by rw [HY.out.2.2.2.2.2.1]; omega)).mono ?_
        rintro e w9 ⟨r8, rfl, hr9, hb9⟩
        have bx9 := bx8.keep hb9
        have hO9 := hO8.keep hb9
        have hBw9 : Below w.heap.size w w9 := hBw8.trans (hb9.mono hBw8.size)
        have hN := HY.out.2.2.2.1
        have hfin : (Ls ++ [lst :: natsI PT]) ++ partsP ps i j f L2 (lessP lst ys PT) = partsR n ps xs i j := by
          rw [← HY.out.2.2.2.2.1, HON.out, List.append_assoc]
          simp
        have hM9 : leftN2 (lessP lst ys PT) L2 < f := by
          have h1 := HS.out.2.2.2.1
          have h2 := HY.out.2.1
          omega
        have HNN := Lib.hid hN
        have HF := Lib.hid (And.intro hfin (And.intro hM9 eL))
        clear hO8 hb9 hN bx8 d0 d1 bs hfin hM9 eL
        obtain ⟨bs, d0, d1, -, -⟩ := id bx9
        go_wp2
        go_roundw
        case rel => exact ⟨f, N + 1, k6, some ⟨g5, 0, none⟩, Ls ++ [lst :: natsI PT], lessP lst ys PT, _, _, L2, rfl, hr9, HS.out.2.2.1, HS.out.2.2.2.2.2, HF.out.2.1, by have hN := HNN.out; rw [List.length_append, ← hN]; simp; omega, by rw [List.length_append, ← HNN.out]; rfl, rfl, hO9, HF.out.1, by (first | (rw [HF.out.2.2]; done) | (rw [HF.out.2.2]; simp)), bx9, hBw9⟩
        case measure => simp [sliceLen]; omega
    · have hld : decide (0 < left) = false := decide_eq_false hleft
      have hbal := HY.out.1.done hleft Hl0.out
      have HOFF := Lib.hid (parts_off (ps := ps) (a := i) (b := j) (xs := ys) (f := f) hleft)
      go_wp2_with fail
      with_reducible refine (ringsOf_any n _ _ ps ys b bf _ ((hp0.keep hB).keep (by (repeat (first | (with_reducible assumption) | (with_reducible exact Below.refl _ _) | ((with_reducible refine Below.alloc ?_ ?hsz _); (case hsz => (first | omega | (simp; done) | (simp; omega) | (simp at *; omega)))) | ((with_reducible refine Below.setCell ?_ ?hsz _); (case hsz => (first | omega | (simp; done) | (simp; omega) | (simp at *; omega)))) | (with_reducible refine Below.drew ?_) | (with_reducible refine below_drewN ?_ _) | ((with_reducible refine Below.trans ?_ (Below.mono (by with_reducible assumption) ?hsz)); (case hsz => (first | omega | (simp; done) | (simp; omega) | (simp at *; omega)))))))) (hy.keep (by (repeat (first | (with_reducible assumption) | (with_reducible exact Below.refl _ _) | ((with_reducible refine Below.alloc ?_ ?hsz _); (case hsz => (first | omega | (simp; done) | (simp; omega) | (simp at *; omega)))) | ((with_reducible refine Below.setCell ?_ ?hsz _); (case hsz => (first | omega | (simp; done) | (simp; omega) | (simp at *; omega)))) | (with_reducible refine Below.drew ?_) | (with_reducible refine below_drewN ?_ _) | ((with_reducible refine Below.trans ?_ (Below.mono (by with_reducible assumption) ?hsz)); (case hsz => (first | omega | (simp; done) | (simp; omega) | (simp at *; omega)))))))) hbal).mono ?_
      rintro e w5 ⟨A6, k6, rfl, hR, hb5⟩
      have hO5 := hO
      obtain ⟨vs, v1, v2, v3, v4, v5⟩ := hO
      obtain ⟨us, u1, u2, u3, u4, u5⟩ := hR
      have hap : Apart (vs ++ us) := v5.app (B := wr.heap.size) u5 (fun i h q hq => ((v4 i (by omega) h).1.lt q hq).2) (fun i h q hq => ((u4 i (by omega) h).1.lt q hq).1)
      have hN := HY.out.2.2.2.1
      have hLf := HY.out.2.2.1
      have hrf := rings_few8 (ps := ps) 8 ys
      have v2' := own_keep v2 (Nat.le_refl _) hb5
      have v4' : ∀ k (h : k < Ls.length) (h' : k < vs.length), Ints w5 (w.heap.size + 1) vs[k] Ls[k] := fun k hk hk' => (v4 k hk hk').keep hb5
      have u4' : ∀ k (h : k < (ringsL ps ys).length) (h' : k < us.length), Ints w5 (w.heap.size + 1) us[k] (ringsL ps ys)[k] := fun k hk hk' => (u4 k hk hk').mono (by omega)
      have hsrc := rows_src u2 u1 u4
      have hB5 : Below w.heap.size w w5 := hB.trans (hb5.mono hzb)
      have hz5 := hB5.size
      have hs5 := hb5.size
      have hfew : (ringsL ps ys).length ≤ 8 := hrf
      obtain ⟨M, hM⟩ : ∃ M, (ringsL ps ys).length = M := ⟨_, rfl⟩
      rw [← hN] at v2'
      rw [hM] at hsrc hfew ⊢
      have HE := Lib.hid (And.intro v1 (And.intro u1 (And.intro v4' (And.intro u4' (And.intro hap hM)))))
      have hrow : ∀ q', (Value.slice A5 N k5).ownBlock = some q' → w.heap.size + 1 ≤ q' := fun q' hq => (v2'.lt q' hq).1
      clear v1 u1 v4' u4' hap hM v2 v3 v4 v5 u2 u3 u4 u5 hrf hN hbal
      go_wp2_with (first
        | (at_builtin
           go_must (refine wpList_append_src rfl _ _ 32 rfl (w.heap.size + 1) 26 iS _ 1 24 Try.underlying32 hiS hS0 hS1 hS2 rfl (by omega) _ _ N M vs us rfl rfl v2' hsrc (by unfold maxLen; have := HY.out.2.2.2.1; omega) (by have := HY.out.2.2.2.1; omega) (by omega) ?_)
           intro r w7 hown7 hgr7 hat7))
      have hN := HY.out.2.2.2.1
      rw [hN, ← HE.out.2.2.2.2.2] at hown7
      have hfin : OwnRowsV w7 (w.heap.size + 1) r (Ls ++ ringsL ps ys) := rows_appV HE.out.1 HE.out.2.1 (by rw [← hN]; exact v2') HE.out.2.2.1 HE.out.2.2.2.1 HE.out.2.2.2.2.1 (by have := HE.out.2.2.2.2.2; unfold small; omega) hgr7 hown7
      have hB7 : Below w.heap.size w w7 := Below.grown hB5 hgr7 hz5 (fun q hq => by have := hrow q hq; omega)
      have Hcat := Lib.hid (show Ls ++ ringsL ps ys = partsR n ps xs i j by rw [← HY.out.2.2.2.2.1, HOFF.out])
      clear hown7 hgr7 hat7
      go_ret2
      exact ⟨_, rfl, by rw [← Hcat.out]; exact hfin.mono (by omega), hB7⟩

set_option maxHeartbeats 1000000 in
set_option maxRecDepth 20000 in
theorem partsTop_any (n i j : Int) (v u : Value) (ps : List Pp) (xs : List Int) (b b' : Nat) (w : World) (hp : Pipes w b v ps) (hx : Ints w b' u xs) :
    Calls Try.prog 28 #[.agg #[.int .i64 n, v], u, .int .i64 i, .int .i64 j] w fun e w' => ∃ r, e = .returned (.tuple #[r, .bool (partsOkB n ps xs i j)]) ∧ OwnRowsV w' w.heap.size r (partsR n ps xs i j) ∧ Below w.heap.size w w' := by
  by_cases hok : partsOkB n ps xs i j = true
  · rw [hok]; exact partsIn_any n i j v u ps xs b b' w hp hx hok
  · have hok' : partsOkB n ps xs i j = false := by simpa using hok
    have Hno := Lib.hid (parts_no hok')
    have Hf := Lib.hid hok'
    have hp0 := hp
    have hx0 := hx
    obtain ⟨A, c, rfl, -, -, -, -⟩ := hp.form
    obtain ⟨A0, c0, rfl, -, -, -, -⟩ := hx.form
    have bx0 := Box2.new w (.int .i64 n) (.slice A ps.length c) 25
    clear hok
    go_enter Try.func28, Try.ntmps28
    go_wp2_with fail
    refine (flowOk_any n _ _ ps xs b b' _ (hp0.keep (by (repeat (first | (with_reducible assumption) | (with_reducible exact Below.refl _ _) | ((with_reducible refine Below.alloc ?_ ?hsz _); (case hsz => (first | omega | (simp; done) | (simp; omega) | (simp at *; omega)))) | ((with_reducible refine Below.setCell ?_ ?hsz _); (case hsz => (first | omega | (simp; done) | (simp; omega) | (simp at *; omega)))) | (with_reducible refine Below.drew ?_) | (with_reducible refine below_drewN ?_ _) | ((with_reducible refine Below.trans ?_ (Below.mono (by with_reducible assumption) ?hsz)); (case hsz => (first | omega | (simp; done) | (simp; omega) | (simp at *; omega)))))))) (hx0.keep (by (repeat (first | (with_reducible assumption) | (with_reducible exact Below.refl _ _) | ((with_reducible refine Below.alloc ?_ ?hsz _); (case hsz => (first | omega | (simp; done) | (simp; omega) | (simp at *; omega)))) | ((with_reducible refine Below.setCell ?_ ?hsz _); (case hsz => (first | omega | (simp; done) | (simp; omega) | (simp at *; omega)))) | (with_reducible refine Below.drew ?_) | (with_reducible refine below_drewN ?_ _) | ((with_reducible refine Below.trans ?_ (Below.mono (by with_reducible assumption) ?hsz)); (case hsz => (first | omega | (simp; done) | (simp; omega) | (simp at *; omega))))))))).mono ?_
    rintro e w1 ⟨rfl, hb1⟩
    have bx1 := bx0.keep hb1
    have hB1 : Below w.heap.size w w1 := by (repeat (first | (with_reducible assumption) | (with_reducible exact Below.refl _ _) | ((with_reducible refine Below.alloc ?_ ?hsz _); (case hsz => (first | omega | (simp; done) | (simp; omega) | (simp at *; omega)))) | ((with_reducible refine Below.setCell ?_ ?hsz _); (case hsz => (first | omega | (simp; done) | (simp; omega) | (simp at *; omega)))) | (with_reducible refine Below.drew ?_) | (with_reducible refine below_drewN ?_ _) | ((with_reducible refine Below.trans ?_ (Below.mono (by with_reducible assumption) ?hsz)); (case hsz => (first | omega | (simp; done) | (simp; omega) | (simp at *; omega))))))
    clear bx0 hb1
    obtain ⟨bs, d0, d1, -, -⟩ := id bx1
    by_cases hfl : flowOkB n ps xs = true
    · rw [hfl]
      go_wp2_with fail
      refine (endsOk_any n i j _ ps b _ ((hp0.keep hB1).keep (by (repeat (first | (with_reducible assumption) | (with_reducible exact Below.refl _ _) | ((with_reducible refine Below.alloc ?_ ?hsz _); (case hsz => (first | omega | (simp; done) | (simp; omega) | (simp at *; omega)))) | ((with_reducible refine Below.setCell ?_ ?hsz _); (case hsz => (first | omega | (simp; done) | (simp; omega) | (simp at *; omega)))) | (with_reducible refine Below.drew ?_) | (with_reducible refine below_drewN ?_ _) | ((with_reducible refine Below.trans ?_ (Below.mono (by with_reducible assumption) ?hsz)); (case hsz => (first | omega | (simp; done) | (simp; omega) | (simp at *; omega))))))))).mono ?_
      rintro e w2 ⟨rfl, hb2⟩
      have bx2 := bx1.keep hb2
      have hB2 : Below w.heap.size w w2 := by (repeat (first | (with_reducible assumption) | (with_reducible exact Below.refl _ _) | ((with_reducible refine Below.alloc ?_ ?hsz _); (case hsz => (first | omega | (simp; done) | (simp; omega) | (simp at *; omega)))) | ((with_reducible refine Below.setCell ?_ ?hsz _); (case hsz => (first | omega | (simp; done) | (simp; omega) | (simp at *; omega)))) | (with_reducible refine Below.drew ?_) | (with_reducible refine below_drewN ?_ _) | ((with_reducible refine Below.trans ?_ (Below.mono (by with_reducible assumption) ?hsz)); (case hsz => (first | omega | (simp; done) | (simp; omega) | (simp at *; omega))))))
      clear bx1 hb2 d0 d1 bs
      obtain ⟨bs, d0, d1, -, -⟩ := id bx2
      by_cases he : endsB n ps i j = true
      · rw [he]
        have hfb : flowsB n ps xs i j = false := by
          have := hok'
          rw [partsOkB, hfl, he] at this
          simpa using this
        clear hok'
        go_wp2_with fail
        refine (flowsBetween_any n i j _ _ ps xs b b' _ ((hp0.keep hB2).keep (by (repeat (first | (with_reducible assumption) | (with_reducible exact Below.refl _ _) | ((with_reducible refine Below.alloc ?_ ?hsz _); (case hsz => (first | omega | (simp; done) | (simp; omega) | (simp at *; omega)))) | ((with_reducible refine Below.setCell ?_ ?hsz _); (case hsz => (first | omega | (simp; done) | (simp; omega) | (simp at *; omega)))) | (with_reducible refine Below.drew ?_) | (with_reducible refine below_drewN ?_ _) | ((with_reducible refine Below.trans ?_ (Below.mono (by with_reducible assumption) ?hsz)); (case hsz => (first | omega | (simp; done) | (simp; omega) | (simp at *; omega)))))))) ((hx0.keep hB2).keep (by (repeat (first | (with_reducible assumption) | (with_reducible exact Below.refl _ _) | ((with_reducible refine Below.alloc ?_ ?hsz _); (case hsz => (first | omega | (simp; done) | (simp; omega) | (simp at *; omega)))) | ((with_reducible refine Below.setCell ?_ ?hsz _); (case hsz => (first | omega | (simp; done) | (simp; omega) | (simp at *; omega)))) | (with_reducible refine Below.drew ?_) | (with_reducible refine below_drewN ?_ _) | ((with_reducible refine Below.trans ?_ (Below.mono (by with_reducible assumption) ?hsz)); (case hsz => (first | omega | (simp; done) | (simp; omega) | (simp at *; omega)))))))) hfl).mono ?_
        rintro e w3 ⟨rfl, hb3⟩
        rw [hfb]
        go_wp2
        go_ret2
        exact ⟨.slice none 0 0, ret_vb Hf.out.symm, by rw [Hno.out]; exact OwnRowsV.none_ _ _, by (repeat (first | (with_reducible assumption) | (with_reducible exact Below.refl _ _) | ((with_reducible refine Below.alloc ?_ ?hsz _); (case hsz => (first | omega | (simp; done) | (simp; omega) | (simp at *; omega)))) | ((with_reducible refine Below.setCell ?_ ?hsz _); (case hsz => (first | omega | (simp; done) | (simp; omega) | (simp at *; omega)))) | (with_reducible refine Below.drew ?_) | (with_reducible refine below_drewN ?_ _) | ((with_reducible refine Below.trans ?_ (Below.mono (by with_reducible assumption) ?hsz)); (case hsz => (first | omega | (simp; done) | (simp; omega) | (simp at *; omega))))))⟩
      · have he' : endsB n ps i j = false := by simpa using he
        rw [he']
        go_wp2
        go_ret2
        exact ⟨.slice none 0 0, ret_vb Hf.out.symm, by rw [Hno.out]; exact OwnRowsV.none_ _ _, by (repeat (first | (with_reducible assumption) | (with_reducible exact Below.refl _ _) | ((with_reducible refine Below.alloc ?_ ?hsz _); (case hsz => (first | omega | (simp; done) | (simp; omega) | (simp at *; omega)))) | ((with_reducible refine Below.setCell ?_ ?hsz _); (case hsz => (first | omega | (simp; done) | (simp; omega) | (simp at *; omega)))) | (with_reducible refine Below.drew ?_) | (with_reducible refine below_drewN ?_ _) | ((with_reducible refine Below.trans ?_ (Below.mono (by with_reducible assumption) ?hsz)); (case hsz => (first | omega | (simp; done) | (simp; omega) | (simp at *; omega))))))⟩
    · have hfl' : flowOkB n ps xs = false := by simpa using hfl
      rw [hfl']
      go_wp2
      go_ret2
      exact ⟨.slice none 0 0, ret_vb Hf.out.symm, by rw [Hno.out]; exact OwnRowsV.none_ _ _, by (repeat (first | (with_reducible assumption) | (with_reducible exact Below.refl _ _) | ((with_reducible refine Below.alloc ?_ ?hsz _); (case hsz => (first | omega | (simp; done) | (simp; omega) | (simp at *; omega)))) | ((with_reducible refine Below.setCell ?_ ?hsz _); (case hsz => (first | omega | (simp; done) | (simp; omega) | (simp at *; omega)))) | (with_reducible refine Below.drew ?_) | (with_reducible refine below_drewN ?_ _) | ((with_reducible refine Below.trans ?_ (Below.mono (by with_reducible assumption) ?hsz)); (case hsz => (first | omega | (simp; done) | (simp; omega) | (simp at *; omega))))))⟩

end Go.Proofs.Ytlaeckjfjleplaa

/- Contracts of the functions of chapter 4 in the model: PartsOf. -/
namespace Go.Proofs.Ytlaeckjfjleplaa
open Go.RowKit

theorem flows_no' {n i j : Int} {ps : List Pp} {xs : List Int} {k : Nat} (hk : (k : Int) < n) (h1 : (k : Int) ≠ i) (h2 : (k : Int) ≠ j) (h3 : exc (k : Int) ps xs ≠ 0) : flowsB n ps xs i j = false := by
  have : ((List.range n.toNat).all fun k : Nat => decide ((k : Int) = i) || decide ((k : Int) = j) || decide (exc (k : Int) ps xs = 0)) = false := by
    rw [List.all_eq_false]
    exact ⟨k, List.mem_range.2 (by omega), by simp [h1, h2, h3]⟩
  rw [flowsB, this, Bool.false_and]
theorem flows_all' {n i j : Int} {ps : List Pp} {xs : List Int} (h : ∀ q : Nat, (q : Int) < n → (q : Int) = i ∨ (q : Int) = j ∨ exc (q : Int) ps xs = 0) : flowsB n ps xs i j = decide (0 ≤ exc j ps xs) := by
  have : ((List.range n.toNat).all fun k : Nat => decide ((k : Int) = i) || decide ((k : Int) = j) || decide (exc (k : Int) ps xs = 0)) = true := by
    rw [List.all_eq_true]
    intro q hq
    have := h q (by have := List.mem_range.1 hq; omega)
    simp only [Bool.or_eq_true, decide_eq_true_eq]
    rcases this with h | h | h
    · exact .inl (.inl h)
    · exact .inl (.inr h)
    · exact .inr h
  rw [flowsB, this, Bool.true_and]
theorem parts_on' {ps : List Pp} {a b left : Int} {xs : List Int} {f : Nat} (h : 0 < left) : partsP ps a b (f + 1) left xs = (partD ps xs a b left :: natsI (partP ps xs a b)) :: partsP ps a b f (partL ps xs a b left) (lessP (partD ps xs a b left) xs (partP ps xs a b)) := by rw [partsP, if_pos h]
theorem parts_off' {ps : List Pp} {a b left : Int} {xs : List Int} {f : Nat} (h : ¬ 0 < left) : partsP ps a b (f + 1) left xs = ringsL ps xs := by rw [partsP, if_neg h]
theorem parts_yes' {n a b : Int} {ps : List Pp} {xs : List Int} (h : partsOkB n ps xs a b = true) : partsR n ps xs a b = partsP ps a b 10 (exc b ps xs) xs := by rw [partsR, if_pos h]
theorem parts_no' {n a b : Int} {ps : List Pp} {xs : List Int} (h : partsOkB n ps xs a b = false) : partsR n ps xs a b = [] := by rw [partsR, if_neg (by simp [h])]
theorem rows_app {w w6 : World} {b g cap g6 k6 : Nat} {Ls Ms : List (List Int)} {vs us : List Value} (h1 : vs.length = Ls.length) (h1' : us.length = Ms.length) (h2 : w.ownsRow b 26 1 (.slice (some ⟨g, 0, none⟩) Ls.length cap) Ls.length vs)
    (h4 : ∀ k (h : k < Ls.length) (h' : k < vs.length), Ints w b vs[k] Ls[k]) (h4' : ∀ k (h : k < Ms.length) (h' : k < us.length), Ints w b us[k] Ms[k]) (hs : Ls.length + Ms.length ≤ small) (hg : w.grownBy w6 (some g))
    (ho : w6.ownsRow b 26 1 (.slice (some ⟨g6, 0, none⟩) (Ls.length + Ms.length) k6) (Ls.length + Ms.length) (vs ++ us)) : OwnRows w6 b g6 k6 (Ls ++ Ms) := by
  have hl : (Ls ++ Ms).length = Ls.length + Ms.length := by simp
  refine ⟨vs ++ us, by simp [h1, h1'], by rw [hl]; exact ho, by rw [hl]; exact hs, fun k hk hk' => ?_⟩
  by_cases hlt : k < Ls.length
  · have e1 : (vs ++ us)[k] = vs[k]'(by omega) := List.getElem_append_left (by omega)
    have e2 : (Ls ++ Ms)[k] = Ls[k] := List.getElem_append_left hlt
    rw [e1, e2]
    exact (h4 k hlt (by omega)).other h2 hg
  · have hk2 : k < Ls.length + Ms.length := by rw [hl] at hk; exact hk
    have e1 : (vs ++ us)[k] = us[k - vs.length]'(by omega) := List.getElem_append_right (by omega)
    have e2 : (Ls ++ Ms)[k] = Ms[k - Ls.length]'(by omega) := List.getElem_append_right (by omega)
    have e3 : us[k - vs.length]'(by omega) = us[k - Ls.length]'(by omega) := by congr 1; omega
    rw [e1, e2, e3]
    exact (h4' (k - Ls.length) (by omega) (by omega)).other h2 hg
theorem rows_src' {w : World} {b n : Nat} {v : Value} {vs : List Value} {Ls : List (List Int)} (h : w.ownsRow b 26 1 v n vs) (h1 : vs.length = Ls.length) (h4 : ∀ k (h : k < Ls.length) (h' : k < vs.length), Ints w b vs[k] Ls[k]) : SrcOk w 1 v n vs :=
  own_src h fun u hu => by
    obtain ⟨k, hk, rfl⟩ := List.getElem_of_mem hu
    obtain ⟨A, c, e, -⟩ := (h4 k (by omega) hk).form
    rw [e]
    rfl
theorem own_some {w : World} {b e size n : Nat} {v : Value} {xs : List Value} {g : Nat} (h : w.ownsRow b e size v n xs) (hv : v.ownBlock = some g) : ∃ cap, v = .slice (some ⟨g, 0, none⟩) n cap := by
  rcases h.2 with ⟨h0, -⟩ | ⟨g1, c1, cur1, h0, -⟩
  · rw [h0] at hv; cases hv
  · rw [h0] at hv
    have : g1 = g := by injection hv
    subst this
    exact ⟨c1, h0⟩

set_option maxHeartbeats 4000000 in
set_option maxRecDepth 20000 in
theorem specPartsIn_any (n i j : Int) (v u : Value) (ps : List Pp) (xs : List Int) (b b' : Nat) (w : World) (hp : Pipes w b v ps) (hx : Ints w b' u xs) (hok : partsOkB n ps xs i j = true) :
    Calls Try.prog 29 #[.agg #[.int .i64 n, v], u, .int .i64 i, .int .i64 j] w fun e w' => ∃ g cap : Nat, e = .returned (.tuple #[.slice (some ⟨g, 0, none⟩) (partsR n ps xs i j).length cap, .bool true]) ∧ OwnRows w' w.heap.size g cap (partsR n ps xs i j) ∧ Below w.heap.size w w' := by
  have hp0 := hp
  have hx0 := hx
  obtain ⟨A, c, rfl, -, -, -, -⟩ := hp.form
  obtain ⟨A0, c0, rfl, -, -, -, -⟩ := hx.form
  obtain ⟨hst, hl0⟩ := PartSt.of hok
  have Hyes := Lib.hid (parts_yes' hok)
  have hok' := hok
  simp only [partsOkB, Bool.and_eq_true] at hok'
  obtain ⟨⟨hfl, he⟩, hfb⟩ := hok'
  obtain ⟨hn, hlen, -⟩ := flowOk_parts hfl
  obtain ⟨n2, n5, hl7, hpo⟩ := netOk_parts hn
  have hpos : leftN2 xs (exc j ps xs) < 10 := by
    have := pos_le (xs := xs)
    unfold leftN2
    split <;> omega
  obtain ⟨-, i0', i1', j0, j1, hij⟩ := ends_parts he
  obtain ⟨i0, hi0', hz0, hz1', hz2'⟩ := info_parts int_info
  obtain ⟨iS, hiS, hS0, hS1, hS2⟩ := info_parts ints_info
  have HP := Lib.hid (And.intro hn (And.intro hl7 (And.intro hst (And.intro hl0 (And.intro hpos hfl)))))
  have bx0 := Box2.new w (.int .i64 n) (.slice A ps.length c) 25
  clear hok hst hpos hlen hn hpo hfb
  go_enter Try.func29, Try.ntmps29
  go_wp2_with fail
  refine (specFlowOk_any n _ _ ps xs b b' _ (hp0.keep (by (repeat (first | (with_reducible assumption) | (with_reducible exact Below.refl _ _) | ((with_reducible refine Below.alloc ?_ ?hsz _); (case hsz => (first | omega | (simp; done) | (simp; omega) | (simp at *; omega)))) | ((with_reducible refine Below.setCell ?_ ?hsz _); (case hsz => (first | omega | (simp; done) | (simp; omega) | (simp at *; omega)))) | (with_reducible refine Below.drew ?_) | (with_reducible refine below_drewN ?_ _) | ((with_reducible refine Below.trans ?_ (Below.mono (by with_reducible assumption) ?hsz)); (case hsz => (first | omega | (simp; done) | (simp; omega) | (simp at *; omega)))))))) (hx0.keep (by (repeat (first | (with_reducible assumption) | (with_reducible exact Below.refl _ _) | ((with_reducible refine Below.alloc ?_ ?hsz _); (case hsz => (first | omega | (simp; done) | (simp; omega) | (simp at *; omega)))) | ((with_reducible refine Below.setCell ?_ ?hsz _); (case hsz => (first | omega | (simp; done) | (simp; omega) | (simp at *; omega)))) | (with_reducible refine Below.drew ?_) | (with_reducible refine below_drewN ?_ _) | ((with_reducible refine Below.trans ?_ (Below.mono (by with_reducible assumption) ?hsz)); (case hsz => (first | omega | (simp; done) | (simp; omega) | (simp at *; omega))))))))).mono ?_
  rintro e w1 ⟨rfl, hb1⟩
  rw [hfl]
  have bx1 := bx0.keep hb1
  have hB1 : Below w.heap.size w w1 := by (repeat (first | (with_reducible assumption) | (with_reducible exact Below.refl _ _) | ((with_reducible refine Below.alloc ?_ ?hsz _); (case hsz => (first | omega | (simp; done) | (simp; omega) | (simp at *; omega)))) | ((with_reducible refine Below.setCell ?_ ?hsz _); (case hsz => (first | omega | (simp; done) | (simp; omega) | (simp at *; omega)))) | (with_reducible refine Below.drew ?_) | (with_reducible refine below_drewN ?_ _) | ((with_reducible refine Below.trans ?_ (Below.mono (by with_reducible assumption) ?hsz)); (case hsz => (first | omega | (simp; done) | (simp; omega) | (simp at *; omega))))))
  clear bx0 hb1
  obtain ⟨bs, d0, d1, -, -⟩ := id bx1
  go_wp2_with fail
  refine (ends_any n i j _ ps b _ ((hp0.keep hB1).keep (by (repeat (first | (with_reducible assumption) | (with_reducible exact Below.refl _ _) | ((with_reducible refine Below.alloc ?_ ?hsz _); (case hsz => (first | omega | (simp; done) | (simp; omega) | (simp at *; omega)))) | ((with_reducible refine Below.setCell ?_ ?hsz _); (case hsz => (first | omega | (simp; done) | (simp; omega) | (simp at *; omega)))) | (with_reducible refine Below.drew ?_) | (with_reducible refine below_drewN ?_ _) | ((with_reducible refine Below.trans ?_ (Below.mono (by with_reducible assumption) ?hsz)); (case hsz => (first | omega | (simp; done) | (simp; omega) | (simp at *; omega))))))))).mono ?_
  rintro e w2 ⟨rfl, hb2⟩
  rw [he]
  have bx2 := bx1.keep hb2
  have hB2 : Below w.heap.size w w2 := by (repeat (first | (with_reducible assumption) | (with_reducible exact Below.refl _ _) | ((with_reducible refine Below.alloc ?_ ?hsz _); (case hsz => (first | omega | (simp; done) | (simp; omega) | (simp at *; omega)))) | ((with_reducible refine Below.setCell ?_ ?hsz _); (case hsz => (first | omega | (simp; done) | (simp; omega) | (simp at *; omega)))) | (with_reducible refine Below.drew ?_) | (with_reducible refine below_drewN ?_ _) | ((with_reducible refine Below.trans ?_ (Below.mono (by with_reducible assumption) ?hsz)); (case hsz => (first | omega | (simp; done) | (simp; omega) | (simp at *; omega))))))
  clear bx1 hb2 d0 d1 bs
  obtain ⟨bs, d0, d1, -, -⟩ := id bx2
  go_wp2
  go_loopw [10] (fun t wr => ∃ k : Nat, (k : Int) ≤ n ∧ t = .int .i64 k ∧ Box2 wr w.heap.size (.int .i64 n) (.slice A ps.length c) ∧ Below w.heap.size w wr) (fun t _ => (n - intOf t).toNat)
  case atStart => exact ⟨0, by omega, rfl, bx2, hB2⟩
  case round =>
    clear bx2 d0 d1 bs
    obtain ⟨k, hk, rfl, bx, hB⟩ := hrel
    obtain ⟨bs, d0, d1, -, -⟩ := id bx
    by_cases hlt : (k : Int) < n
    · have hltd : decide ((k : Int) < n) = true := decide_eq_true hlt
      by_cases hi : (k : Int) = i
      · have hib : ((k : Int) != i) = false := by simp [hi]
        clear hi
        go_wp2
        go_roundw
        case rel => exact ⟨k + 1, by omega, by go_num, bx, hB⟩
        case measure => simp [intOf]; omega
      · have hib : ((k : Int) != i) = true := by simpa using hi
        have HI := Lib.hid hi
        clear hi
        by_cases hj : (k : Int) = j
        · have hjb : ((k : Int) != j) = false := by simp [hj]
          clear hj
          go_wp2
          go_roundw
          case rel => exact ⟨k + 1, by omega, by go_num, bx, hB⟩
          case measure => simp [intOf]; omega
        · have hjb : ((k : Int) != j) = true := by simpa using hj
          have he0 := HP.out.2.2.1.two (k : Int) (by omega) hlt HI.out hj
          have heb : (exc (k : Int) ps xs != 0) = false := by simp [he0]
          clear hj he0
          go_wp2_with fail
          refine (specExcess_any (k : Int) n _ _ ps xs b b' _ ((hp0.keep hB).keep (by (repeat (first | (with_reducible assumption) | (with_reducible exact Below.refl _ _) | ((with_reducible refine Below.alloc ?_ ?hsz _); (case hsz => (first | omega | (simp; done) | (simp; omega) | (simp at *; omega)))) | ((with_reducible refine Below.setCell ?_ ?hsz _); (case hsz => (first | omega | (simp; done) | (simp; omega) | (simp at *; omega)))) | (with_reducible refine Below.drew ?_) | (with_reducible refine below_drewN ?_ _) | ((with_reducible refine Below.trans ?_ (Below.mono (by with_reducible assumption) ?hsz)); (case hsz => (first | omega | (simp; done) | (simp; omega) | (simp at *; omega)))))))) ((hx0.keep hB).keep (by (repeat (first | (with_reducible assumption) | (with_reducible exact Below.refl _ _) | ((with_reducible refine Below.alloc ?_ ?hsz _); (case hsz => (first | omega | (simp; done) | (simp; omega) | (simp at *; omega)))) | ((with_reducible refine Below.setCell ?_ ?hsz _); (case hsz => (first | omega | (simp; done) | (simp; omega) | (simp at *; omega)))) | (with_reducible refine Below.drew ?_) | (with_reducible refine below_drewN ?_ _) | ((with_reducible refine Below.trans ?_ (Below.mono (by with_reducible assumption) ?hsz)); (case hsz => (first | omega | (simp; done) | (simp; omega) | (simp at *; omega)))))))) HP.out.2.2.2.2.2).mono ?_
          rintro e w5 ⟨rfl, hb5⟩
          have bx5 := bx.keep hb5
          have hB5 : Below w.heap.size w w5 := by (repeat (first | (with_reducible assumption) | (with_reducible exact Below.refl _ _) | ((with_reducible refine Below.alloc ?_ ?hsz _); (case hsz => (first | omega | (simp; done) | (simp; omega) | (simp at *; omega)))) | ((with_reducible refine Below.setCell ?_ ?hsz _); (case hsz => (first | omega | (simp; done) | (simp; omega) | (simp at *; omega)))) | (with_reducible refine Below.drew ?_) | (with_reducible refine below_drewN ?_ _) | ((with_reducible refine Below.trans ?_ (Below.mono (by with_reducible assumption) ?hsz)); (case hsz => (first | omega | (simp; done) | (simp; omega) | (simp at *; omega))))))
          clear bx hb5 d0 d1 bs
          go_wp2
          go_roundw
          case rel => exact ⟨k + 1, by omega, by go_num, bx5, hB5⟩
          case measure => simp [intOf]; omega
    · have hltd : decide ((k : Int) < n) = false := decide_eq_false hlt
      go_wp2_with fail
      refine (specExcess_any j n _ _ ps xs b b' _ ((hp0.keep hB).keep (by (repeat (first | (with_reducible assumption) | (with_reducible exact Below.refl _ _) | ((with_reducible refine Below.alloc ?_ ?hsz _); (case hsz => (first | omega | (simp; done) | (simp; omega) | (simp at *; omega)))) | ((with_reducible refine Below.setCell ?_ ?hsz _); (case hsz => (first | omega | (simp; done) | (simp; omega) | (simp at *; omega)))) | (with_reducible refine Below.drew ?_) | (with_reducible refine below_drewN ?_ _) | ((with_reducible refine Below.trans ?_ (Below.mono (by with_reducible assumption) ?hsz)); (case hsz => (first | omega | (simp; done) | (simp; omega) | (simp at *; omega)))))))) ((hx0.keep hB).keep (by (repeat (first | (with_reducible assumption) | (with_reducible exact Below.refl _ _) | ((with_reducible refine Below.alloc ?_ ?hsz _); (case hsz => (first | omega | (simp; done) | (simp; omega) | (simp at *; omega)))) | ((with_reducible refine Below.setCell ?_ ?hsz _); (case hsz => (first | omega | (simp; done) | (simp; omega) | (simp at *; omega)))) | (with_reducible refine Below.drew ?_) | (with_reducible refine below_drewN ?_ _) | ((with_reducible refine Below.trans ?_ (Below.mono (by with_reducible assumption) ?hsz)); (case hsz => (first | omega | (simp; done) | (simp; omega) | (simp at *; omega)))))))) HP.out.2.2.2.2.2).mono ?_
      rintro e w4 ⟨rfl, hb4⟩
      have bx4 := bx.keep hb4
      have hB4 : Below w.heap.size w w4 := by (repeat (first | (with_reducible assumption) | (with_reducible exact Below.refl _ _) | ((with_reducible refine Below.alloc ?_ ?hsz _); (case hsz => (first | omega | (simp; done) | (simp; omega) | (simp at *; omega)))) | ((with_reducible refine Below.setCell ?_ ?hsz _); (case hsz => (first | omega | (simp; done) | (simp; omega) | (simp at *; omega)))) | (with_reducible refine Below.drew ?_) | (with_reducible refine below_drewN ?_ _) | ((with_reducible refine Below.trans ?_ (Below.mono (by with_reducible assumption) ?hsz)); (case hsz => (first | omega | (simp; done) | (simp; omega) | (simp at *; omega))))))
      clear bx hb4 d0 d1 bs hB1 hB2 hB hltd hlt hk
      obtain ⟨bs, d0, d1, -, -⟩ := id bx4
      have hnn : decide (exc j ps xs < 0) = false := decide_eq_false (by omega)
      obtain ⟨lf0, hlf⟩ : ∃ l, exc j ps xs = l := ⟨_, rfl⟩
      have HLF := Lib.hid hlf
      rw [hlf] at Hyes hnn ⊢
      have hO0 : OwnRows (w4.alloc (.cells #[] 26)) (w.heap.size + 1) w4.heap.size 0 [] := by
        have h := World.ownsRow_lit (e := 26) (base := w.heap.size + 1) (size := 1) w4 #[] 0 (by omega) (by simp [maxLen]) rfl
        exact ⟨[], rfl, h, by simp [small], fun k hk => absurd hk (by simp)⟩
      clear hlf hl0
      go_wp2
      go_loopw [1, 12, 11] (fun t1 t12 t11 wr => ∃ (f N cap g : Nat) (Ls : List (List Int)) (ys : List Int) (bf : Nat) (fl : Value) (left : Int), t1 = fl ∧ Ints wr bf fl ys ∧ PartSt n ps ys i j left ∧ 0 ≤ left ∧ leftN2 ys left < f ∧ Ls.length + f ≤ 10 ∧ N = Ls.length ∧ t12 = .slice (some ⟨g, 0, none⟩) N cap ∧ OwnRows wr (w.heap.size + 1) g cap Ls ∧ Ls ++ partsP ps i j f left ys = partsR n ps xs i j ∧ t11 = .int .i64 left ∧ Box2 wr w.heap.size (.int .i64 n) (.slice A ps.length c) ∧ Below w.heap.size w wr) (fun _ t12 _ _ => 11 - sliceLen t12)
      case atStart => exact ⟨10, 0, 0, w4.heap.size, [], xs, b', _, lf0, rfl, (hx0.keep hB4).keep (by (repeat (first | (with_reducible assumption) | (with_reducible exact Below.refl _ _) | ((with_reducible refine Below.alloc ?_ ?hsz _); (case hsz => (first | omega | (simp; done) | (simp; omega) | (simp at *; omega)))) | ((with_reducible refine Below.setCell ?_ ?hsz _); (case hsz => (first | omega | (simp; done) | (simp; omega) | (simp at *; omega)))) | (with_reducible refine Below.drew ?_) | (with_reducible refine below_drewN ?_ _) | ((with_reducible refine Below.trans ?_ (Below.mono (by with_reducible assumption) ?hsz)); (case hsz => (first | omega | (simp; done) | (simp; omega) | (simp at *; omega))))))), by rw [← HLF.out]; exact HP.out.2.2.1, by rw [← HLF.out]; exact HP.out.2.2.2.1, by rw [← HLF.out]; exact HP.out.2.2.2.2.1, by simp, rfl, rfl, hO0, by rw [Hyes.out]; rfl, rfl, bx4.keep (by (repeat (first | (with_reducible assumption) | (with_reducible exact Below.refl _ _) | ((with_reducible refine Below.alloc ?_ ?hsz _); (case hsz => (first | omega | (simp; done) | (simp; omega) | (simp at *; omega)))) | ((with_reducible refine Below.setCell ?_ ?hsz _); (case hsz => (first | omega | (simp; done) | (simp; omega) | (simp at *; omega)))) | (with_reducible refine Below.drew ?_) | (with_reducible refine below_drewN ?_ _) | ((with_reducible refine Below.trans ?_ (Below.mono (by with_reducible assumption) ?hsz)); (case hsz => (first | omega | (simp; done) | (simp; omega) | (simp at *; omega))))))), by (repeat (first | (with_reducible assumption) | (with_reducible exact Below.refl _ _) | ((with_reducible refine Below.alloc ?_ ?hsz _); (case hsz => (first | omega | (simp; done) | (simp; omega) | (simp at *; omega)))) | ((with_reducible refine Below.setCell ?_ ?hsz _); (case hsz => (first | omega | (simp; done) | (simp; omega) | (simp at *; omega)))) | (with_reducible refine Below.drew ?_) | (with_reducible refine below_drewN ?_ _) | ((with_reducible refine Below.trans ?_ (Below.mono (by with_reducible assumption) ?hsz)); (case hsz => (first | omega | (simp; done) | (simp; omega) | (simp at *; omega))))))⟩
      case round =>
        clear bx4 hB4 hx0 hx hO0 d0 d1 bs hnn
        obtain ⟨f, N, cap, g, Ls, ys, bf, fl, left, rfl, hy, hst, hl0, hpf, hLf, hN, rfl, hO, hcat, rfl, bx, hB⟩ := hrel
        obtain ⟨AY, cY, rfl, hcy1, hcy2, -, -⟩ := hy.form
        unfold maxLen at hcy2
        have hyl := (flowOk_parts hst.flow).2.1
        have hyb := flow_getD hst.flow
        obtain ⟨f, rfl⟩ : ∃ f', f = f' + 1 := ⟨f - 1, by omega⟩
        have HY := Lib.hid (And.intro hst (And.intro hpf (And.intro hLf (And.intro hN (And.intro hcat (And.intro hyl hyb))))))
        have Hl0 := Lib.hid hl0
        rw [hyl] at hcy1 hy ⊢
        have hzb := hB.size
        obtain ⟨bs, d0, d1, -, -⟩ := id bx
        have hbw := bs
        clear hst hpf hLf hN hcat hyl hyb hl0
        by_cases hleft : 0 < left
        · have hld : decide (0 < left) = true := decide_eq_true hleft
          obtain ⟨sne, snd, sop, s6, sD0, sD40, sL0, sst, sM⟩ := HY.out.1.step hleft
          have HON := Lib.hid (parts_on' (ps := ps) (a := i) (b := j) (xs := ys) (f := f) hleft)
          have sl1 := List.length_pos_iff.2 sne
          have hps : 0 < ps.length := by obtain ⟨q, hq⟩ := List.exists_mem_of_ne_nil _ sne; have := (sop q hq).1; omega
          have hlft : left ≤ 280 := by
            have h1 := exc_bd j ps ys (flowOk_parts HY.out.1.flow).2.2
            rw [HY.out.1.left] at h1
            have := HP.out.2.1
            omega
          obtain ⟨-, wop, hat, hw6⟩ : walkEnd ps ys (walkP ps ys i j) := go_ends (n := n) (fun p hp => by obtain ⟨-, -, p2, p3, -⟩ := pipeOk_parts ((netOk_parts HP.out.1).2.2.2 p hp); exact ⟨p2, p3⟩) n5 (by omega) 6 _ _ (walk_start i0' i1')
          have hDdef : (partD ps ys i j left = if 0 ≤ (walkP ps ys i j).2 then leastP ys (partP ps ys i j) else min (leastP ys (partP ps ys i j)) left) ∧ (partL ps ys i j left = if 0 ≤ (walkP ps ys i j).2 then left else left - partD ps ys i j left) := ⟨rfl, rfl⟩
          have hPdef : partP ps ys i j = (walkP ps ys i j).1.drop (walkP ps ys i j).2.toNat := rfl
          obtain ⟨PT, hPT⟩ : ∃ PT, partP ps ys i j = PT := ⟨_, rfl⟩
          obtain ⟨D, hD⟩ : ∃ D, partD ps ys i j left = D := ⟨_, rfl⟩
          obtain ⟨L2, hL2⟩ : ∃ L2, partL ps ys i j left = L2 := ⟨_, rfl⟩
          rw [hPT] at sne snd sop s6 sst sM sl1 hDdef hPdef HON
          rw [hD] at sD0 sD40 sst sM hDdef HON
          rw [hL2] at sL0 sst sM hDdef HON
          have HS := Lib.hid (And.intro snd (And.intro sop (And.intro sst (And.intro sM (And.intro hDdef sL0)))))
          clear sne snd sop sst sM hDdef hPT hD hL2 sL0
          go_wp2_with fail
          with_reducible refine (l4Walk_any n i j _ _ ps ys b bf _ ((hp0.keep hB).keep (by (repeat (first | (with_reducible assumption) | (with_reducible exact Below.refl _ _) | ((with_reducible refine Below.alloc ?_ ?hsz _); (case hsz => (first | omega | (simp; done) | (simp; omega) | (simp at *; omega)))) | ((with_reducible refine Below.setCell ?_ ?hsz _); (case hsz => (first | omega | (simp; done) | (simp; omega) | (simp at *; omega)))) | (with_reducible refine Below.drew ?_) | (with_reducible refine below_drewN ?_ _) | ((with_reducible refine Below.trans ?_ (Below.mono (by with_reducible assumption) ?hsz)); (case hsz => (first | omega | (simp; done) | (simp; omega) | (simp at *; omega)))))))) (hy.keep (by (repeat (first | (with_reducible assumption) | (with_reducible exact Below.refl _ _) | ((with_reducible refine Below.alloc ?_ ?hsz _); (case hsz => (first | omega | (simp; done) | (simp; omega) | (simp at *; omega)))) | ((with_reducible refine Below.setCell ?_ ?hsz _); (case hsz => (first | omega | (simp; done) | (simp; omega) | (simp at *; omega)))) | (with_reducible refine Below.drew ?_) | (with_reducible refine below_drewN ?_ _) | ((with_reducible refine Below.trans ?_ (Below.mono (by with_reducible assumption) ?hsz)); (case hsz => (first | omega | (simp; done) | (simp; omega) | (simp at *; omega)))))))) HY.out.2.2.2.2.2.1 HP.out.1 i0' i1').mono ?_
          rintro e w2 ⟨r, rfl, hr, hb2⟩
          have hO2 := hO.keep hb2
          have hy2 := hy.keep hb2
          have bx2 := bx.keep hb2
          have hB2 : Below w.heap.size w w2 := hB.trans (hb2.mono hzb)
          have hs2 := hb2.size
          have hz2 := hB2.size
          obtain ⟨WK, hWK⟩ : ∃ WK, (walkP ps ys i j).1 = WK := ⟨_, rfl⟩
          obtain ⟨at2, hat2⟩ : ∃ at2, (walkP ps ys i j).2 = at2 := ⟨_, rfl⟩
          rw [hWK] at hr hat hw6 hPdef wop
          rw [hat2] at hat hPdef HS ⊢
          have hWne : 0 < WK.length := by
            rcases Nat.eq_zero_or_pos WK.length with h0 | h0
            · exfalso
              have : PT = [] := by rw [hPdef, List.length_eq_zero_iff.1 h0]; simp
              rw [this] at sl1
              simp at sl1
            · exact h0
          have hnW : (natsI WK).length = WK.length := by simp
          obtain ⟨gr, cr, rfl, hRr⟩ := hr.row (by rw [hnW]; exact hWne)
          obtain ⟨or1, or2⟩ := hRr.lt
          obtain ⟨oc1, oc2⟩ := hRr.capd
          have oc2' := oc2
          rw [hnW] at hRr oc1 ⊢
          have hcells : ∀ o, o < WK.length → ∀ j (h : j < (natsI (WK.drop o)).length), w2.cell? ⟨gr, o + j, none⟩ = some (.int .i64 (natsI (WK.drop o))[j]) := by
            intro o ho j hj
            have hj2 : o + j < WK.length := by simp at hj; omega
            rw [(hRr.at' (o + j) hj2).1]
            simp [natsI, List.getD_eq_getElem?_getD, hj2]
          have HW := Lib.hid (And.intro hWK (And.intro hnW hcells))
          have hLW : Lies w2 (.slice (some ⟨gr, 0, none⟩) WK.length cr) (natsI WK) := ⟨gr, 0, cr, by rw [hnW], or2, by rw [hnW]; exact oc1, oc2', by have := hcells 0 hWne; simpa using this⟩
          clear hWK hat2 hnW hcells hr hRr hy hO bx hb2 d0 d1 bs
          unfold maxLen at oc2
          obtain ⟨bs, d0, d1, -, -⟩ := id bx2
          go_wp2_with fail
          refine (l4Least_any bf _ _ ys WK _ hy2 hLW (fun q' hq' => by have := (wop q' hq').1; rw [HY.out.2.2.2.2.2.1]; exact this) hw6).mono ?_
          rintro e w3 ⟨rfl, hb3⟩
          have hy3 := hy2.keep hb3
          have hL3 := hLW.keep hb3
          have hO3 := hO2.keep hb3
          have bx3 := bx2.keep hb3
          have hB3 : Below w.heap.size w w3 := hB2.trans (hb3.mono hz2)
          have hs3 := hb3.size
          have hz3 := hB3.size
          have hc3 : ∀ o, o < WK.length → ∀ j (h : j < (natsI (WK.drop o)).length), w3.cell? ⟨gr, o + j, none⟩ = some (.int .i64 (natsI (WK.drop o))[j]) := fun o ho j hj => (hb3.cell (p := ⟨gr, o + j, none⟩) or2).trans (HW.out.2.2 o ho j hj)
          have HC3 := Lib.hid hc3
          clear hy2 hLW hO2 bx2 hb3 d0 d1 bs hc3
          obtain ⟨bs, d0, d1, -, -⟩ := id bx3
          have hlw40 : leastP ys WK ≤ 40 := (leastF (xs := ys) WK 40).1
          obtain ⟨lw, hlw⟩ : ∃ lw, leastP ys WK = lw := ⟨_, rfl⟩
          rw [hlw] at hlw40 ⊢
          have HLW := Lib.hid hlw
          clear hlw
          rcases hat with rfl | ⟨ha0, ha1⟩
          · have hPW : PT = WK := by rw [hPdef]; simp
            have hD1 : D = min lw left := by
              have := HS.out.2.2.2.2.1.1
              rw [if_neg (by omega), hPW, HLW.out] at this
              exact this
            have hD2 : L2 = left - D := by
              have := HS.out.2.2.2.2.1.2
              rwa [if_neg (by omega)] at this
            subst hPW
            have hml : (natsI PT).length = PT.length := HW.out.2.1
            have hm0 : 0 < PT.length := hWne
            have hy6 := hy3
            have hL6 := hL3
            have hO6 := hO3
            have bx6 := bx3
            have hB6 := hB3
            have hz6 := hz3
            clear hy3 hL3 hO3 bx3 hB3 hz3 hPdef
            by_cases hm : lw ≤ left
            · have eD : lw = D := by omega
              subst eD
              have eL : L2 = left - lw := hD2
              clear hD1 hD2
              go_wp2_with fail
              refine (l4Less_any bf (lw) _ _ ys PT _ hy6 hL6 (fun q' hq' => by have := (HS.out.2.1 q' hq').1; rw [HY.out.2.2.2.2.2.1]; exact this) s6 HS.out.1 HY.out.2.2.2.2.2.2 (by omega) (by rw [HY.out.2.2.2.2.2.1]; omega)).mono ?_
              rintro e w7 ⟨r7, rfl, hr7, hb7⟩
              have hlen7 : (lessP (lw) ys PT).length = ps.length := by rw [less_len]; exact HY.out.2.2.2.2.2.1
              obtain ⟨A4, c4, rfl, -, -, -, -⟩ := hr7.form
              rw [hlen7] at hr7 ⊢
              have hL7 := (hL6.keep hb7).keep (w' := w7.alloc (.cells #[.int .i64 (lw)] 3)) (by (repeat (first | (with_reducible assumption) | (with_reducible exact Below.refl _ _) | ((with_reducible refine Below.alloc ?_ ?hsz _); (case hsz => (first | omega | (simp; done) | (simp; omega) | (simp at *; omega)))) | ((with_reducible refine Below.setCell ?_ ?hsz _); (case hsz => (first | omega | (simp; done) | (simp; omega) | (simp at *; omega)))) | (with_reducible refine Below.drew ?_) | (with_reducible refine below_drewN ?_ _) | ((with_reducible refine Below.trans ?_ (Below.mono (by with_reducible assumption) ?hsz)); (case hsz => (first | omega | (simp; done) | (simp; omega) | (simp at *; omega)))))))
              have hO7 := hO6.keep hb7
              have bx7 := bx6.keep hb7
              have hB7 : Below w.heap.size w w7 := hB6.trans (hb7.mono hz6)
              have hs7 := hb7.size
              have hz7 := hB7.size
              obtain ⟨g9, o9, c9, hv9, -, -, -, hc9⟩ := hL7
              injection hv9 with e1 e2 e3
              injection e1 with e1
              injection e1 with e1 e4
              subst e1
              subst e4
              have hnews := news_lies hc9
              have hownL := World.ownsRow_lit (e := 3) (base := w7.heap.size) (size := 1) w7 #[.int .i64 (lw)] 1 (Nat.le_refl _) (by simp [maxLen]) rfl
              obtain ⟨vs, v1, v2, v3, v4⟩ := hO7
              have hN := HY.out.2.2.2.1
              have hg1 := (v2.lt g rfl).1
              rw [← hN] at v2 v3
              have hLf := HY.out.2.2.1
              rw [← hN] at hLf
              have V4 := Lib.hid v4
              have V1 := Lib.hid v1
              have hdl := hml
              clear v4 v1 hN hlen7 hb7 hc9 e2 e3 bx6 d0 d1 bs
              go_wp2_with (first
                | (at_builtin
                   (refine wpList_append_lies _ rfl _ _ 26 rfl w7.heap.size 3 i0 _ 1 8 Try.underlying26 hi0' hz0 hz1' hz2' rfl (by omega) (.slice (some ⟨w7.heap.size, 0, none⟩) 1 1) 1 [.int .i64 (lw)] rfl hownL ⟨gr, 0, none⟩ (PT.length) (cr) ((natsI PT).map (Value.int .i64)) rfl (by rw [List.length_map, Nat.mul_one]; exact hdl) hnews (by intro u' hu'; obtain ⟨y', -, rfl⟩ := List.mem_map.1 hu'; rfl) hm0 (by unfold maxLen; omega) (by omega) (by simp) _ rfl ?_)
                   intro g5 k5 w8 hown8 hgr8 hat8 hlt8
                   have hB8 : Below w7.heap.size w7 w8 := Below.grown (w := w7.alloc (.cells #[.int .i64 (lw)] 3)) (by (repeat (first | (with_reducible assumption) | (with_reducible exact Below.refl _ _) | ((with_reducible refine Below.alloc ?_ ?hsz _); (case hsz => (first | omega | (simp; done) | (simp; omega) | (simp at *; omega)))) | ((with_reducible refine Below.setCell ?_ ?hsz _); (case hsz => (first | omega | (simp; done) | (simp; omega) | (simp at *; omega)))) | (with_reducible refine Below.drew ?_) | (with_reducible refine below_drewN ?_ _) | ((with_reducible refine Below.trans ?_ (Below.mono (by with_reducible assumption) ?hsz)); (case hsz => (first | omega | (simp; done) | (simp; omega) | (simp at *; omega))))))) hgr8 (by (first | omega | (simp; done) | (simp; omega) | (simp at *; omega))) (fun q hq => by have hq' : w7.heap.size = q := (by injection hq); omega)
                   have hs8 := hB8.size
                   have hO8 := (own_keep v2 (Nat.le_refl _) hB8).alloc (.cells #[.slice (some ⟨g5, 0, none⟩) (1 + (PT.length)) k5] 26))
                | (at_builtin
                   (refine wpList_append_lies _ rfl _ _ 32 rfl (w.heap.size + 1) 26 iS _ 1 24 Try.underlying32 hiS hS0 hS1 hS2 rfl (by omega) (.slice (some ⟨g, 0, none⟩) N cap) N vs rfl hO8 ⟨w8.heap.size, 0, none⟩ 1 1 [.slice (some ⟨g5, 0, none⟩) (1 + (PT.length)) k5] rfl rfl (World.news_of_block (cs := #[.slice (some ⟨g5, 0, none⟩) (1 + (PT.length)) k5]) (t := 26) (fr := (0, 0)) (heap_alloc_new _ _)) (by simp [Value.oneCell']) (by omega) (by unfold maxLen; omega) (by omega) (by simp; omega) _ rfl ?_)
                   intro g6 k6 w9 hown9 hgr9 hat9 hlt9))
              have hI8 : Ints w8 w7.heap.size (.slice (some ⟨g5, 0, none⟩) (1 + (PT.length)) k5) ((lw) :: natsI PT) := ⟨by rw [show ((lw) :: natsI PT).length = 1 + (PT.length) by rw [List.length_cons, hdl]; omega]; exact hown8, by rw [List.length_cons, hdl]; unfold small; omega⟩
              have hI8' := (hI8.mono (b' := w.heap.size + 1) (by omega)).alloc1 (.cells #[.slice (some ⟨g5, 0, none⟩) (1 + (PT.length)) k5] 26)
              have hr9 := ((hr7.keep hB8).alloc1 (.cells #[.slice (some ⟨g5, 0, none⟩) (1 + (PT.length)) k5] 26)).other hO8 hgr9
              have hN := HY.out.2.2.2.1
              have hO9 : OwnRows w9 (w.heap.size + 1) g6 k6 (Ls ++ [(lw) :: natsI PT]) := rows_snoc V1.out (by rw [← hN]; exact hO8) (fun k hk hk' => ((V4.out k hk hk').keep hB8).alloc1 _) hI8' (by unfold small; omega) hgr9 (by rw [← hN]; exact hown9)
              have bx9 := ((bx7.keep hB8).keep (w' := w8.alloc (.cells #[.slice (some ⟨g5, 0, none⟩) (1 + (PT.length)) k5] 26)) (by (repeat (first | (with_reducible assumption) | (with_reducible exact Below.refl _ _) | ((with_reducible refine Below.alloc ?_ ?hsz _); (case hsz => (first | omega | (simp; done) | (simp; omega) | (simp at *; omega)))) | ((with_reducible refine Below.setCell ?_ ?hsz _); (case hsz => (first | omega | (simp; done) | (simp; omega) | (simp at *; omega)))) | (with_reducible refine Below.drew ?_) | (with_reducible refine below_drewN ?_ _) | ((with_reducible refine Below.trans ?_ (Below.mono (by with_reducible assumption) ?hsz)); (case hsz => (first | omega | (simp; done) | (simp; omega) | (simp at *; omega)))))))).grown hgr9 (by intro hh; have hh2 : w.heap.size = g := (by injection hh); omega)
              have hB9 : Below w.heap.size w w9 := Below.grown (w := w8.alloc (.cells #[.slice (some ⟨g5, 0, none⟩) (1 + (PT.length)) k5] 26)) (Below.alloc (hB7.trans (hB8.mono (by omega))) (by omega) _) hgr9 (by simp; omega) (fun q hq => by have hq' : g = q := (by injection hq); omega)
              have hfin : (Ls ++ [(lw) :: natsI PT]) ++ partsP ps i j f L2 (lessP (lw) ys PT) = partsR n ps xs i j := by
                rw [← HY.out.2.2.2.2.1, HON.out, List.append_assoc]
                simp
              have hM9 : leftN2 (lessP (lw) ys PT) L2 < f := by
                have h1 := HS.out.2.2.2.1
                have h2 := HY.out.2.1
                omega
              have hNN := Lib.hid hN
              have HF := Lib.hid (And.intro hfin (And.intro hM9 eL))
              clear hown8 hgr8 hat8 hown9 hgr9 hat9 hN hfin hM9 eL
              go_roundw
              case rel => exact ⟨f, N + 1, k6, g6, Ls ++ [(lw) :: natsI PT], lessP (lw) ys PT, _, _, L2, rfl, hr9, HS.out.2.2.1, HS.out.2.2.2.2.2, HF.out.2.1, by have hN := hNN.out; rw [List.length_append, ← hN]; simp; omega, by rw [List.length_append, ← hNN.out]; rfl, rfl, hO9, HF.out.1, by (first | (rw [HF.out.2.2]; done) | (rw [HF.out.2.2]; simp)), bx9, hB9⟩
              case measure => simp [sliceLen]; omega
            · have eD : left = D := by omega
              have eL : L2 = left - left := by omega
              have hm2 : ¬ lw ≤ left := hm
              subst eD
              clear hD1 hD2
              go_wp2_with fail
              refine (l4Less_any bf (left) _ _ ys PT _ hy6 hL6 (fun q' hq' => by have := (HS.out.2.1 q' hq').1; rw [HY.out.2.2.2.2.2.1]; exact this) s6 HS.out.1 HY.out.2.2.2.2.2.2 (by omega) (by rw [HY.out.2.2.2.2.2.1]; omega)).mono ?_
              rintro e w7 ⟨r7, rfl, hr7, hb7⟩
              have hlen7 : (lessP (left) ys PT).length = ps.length := by rw [less_len]; exact HY.out.2.2.2.2.2.1
              obtain ⟨A4, c4, rfl, -, -, -, -⟩ := hr7.form
              rw [hlen7] at hr7 ⊢
              have hL7 := (hL6.keep hb7).keep (w' := w7.alloc (.cells #[.int .i64 (left)] 3)) (by (repeat (first | (with_reducible assumption) | (with_reducible exact Below.refl _ _) | ((with_reducible refine Below.alloc ?_ ?hsz _); (case hsz => (first | omega | (simp; done) | (simp; omega) | (simp at *; omega)))) | ((with_reducible refine Below.setCell ?_ ?hsz _); (case hsz => (first | omega | (simp; done) | (simp; omega) | (simp at *; omega)))) | (with_reducible refine Below.drew ?_) | (with_reducible refine below_drewN ?_ _) | ((with_reducible refine Below.trans ?_ (Below.mono (by with_reducible assumption) ?hsz)); (case hsz => (first | omega | (simp; done) | (simp; omega) | (simp at *; omega)))))))
              have hO7 := hO6.keep hb7
              have bx7 := bx6.keep hb7
              have hB7 : Below w.heap.size w w7 := hB6.trans (hb7.mono hz6)
              have hs7 := hb7.size
              have hz7 := hB7.size
              obtain ⟨g9, o9, c9, hv9, -, -, -, hc9⟩ := hL7
              injection hv9 with e1 e2 e3
              injection e1 with e1
              injection e1 with e1 e4
              subst e1
              subst e4
              have hnews := news_lies hc9
              have hownL := World.ownsRow_lit (e := 3) (base := w7.heap.size) (size := 1) w7 #[.int .i64 (left)] 1 (Nat.le_refl _) (by simp [maxLen]) rfl
              obtain ⟨vs, v1, v2, v3, v4⟩ := hO7
              have hN := HY.out.2.2.2.1
              have hg1 := (v2.lt g rfl).1
              rw [← hN] at v2 v3
              have hLf := HY.out.2.2.1
              rw [← hN] at hLf
              have V4 := Lib.hid v4
              have V1 := Lib.hid v1
              have hdl := hml
              clear v4 v1 hN hlen7 hb7 hc9 e2 e3 bx6 d0 d1 bs
              go_wp2_with (first
                | (at_builtin
                   (refine wpList_append_lies _ rfl _ _ 26 rfl w7.heap.size 3 i0 _ 1 8 Try.underlying26 hi0' hz0 hz1' hz2' rfl (by omega) (.slice (some ⟨w7.heap.size, 0, none⟩) 1 1) 1 [.int .i64 (left)] rfl hownL ⟨gr, 0, none⟩ (PT.length) (cr) ((natsI PT).map (Value.int .i64)) rfl (by rw [List.length_map, Nat.mul_one]; exact hdl) hnews (by intro u' hu'; obtain ⟨y', -, rfl⟩ := List.mem_map.1 hu'; rfl) hm0 (by unfold maxLen; omega) (by omega) (by simp) _ rfl ?_)
                   intro g5 k5 w8 hown8 hgr8 hat8 hlt8
                   have hB8 : Below w7.heap.size w7 w8 := Below.grown (w := w7.alloc (.cells #[.int .i64 (left)] 3)) (by (repeat (first | (with_reducible assumption) | (with_reducible exact Below.refl _ _) | ((with_reducible refine Below.alloc ?_ ?hsz _); (case hsz => (first | omega | (simp; done) | (simp; omega) | (simp at *; omega)))) | ((with_reducible refine Below.setCell ?_ ?hsz _); (case hsz => (first | omega | (simp; done) | (simp; omega) | (simp at *; omega)))) | (with_reducible refine Below.drew ?_) | (with_reducible refine below_drewN ?_ _) | ((with_reducible refine Below.trans ?_ (Below.mono (by with_reducible assumption) ?hsz)); (case hsz => (first | omega | (simp; done) | (simp; omega) | (simp at *; omega))))))) hgr8 (by (first | omega | (simp; done) | (simp; omega) | (simp at *; omega))) (fun q hq => by have hq' : w7.heap.size = q := (by injection hq); omega)
                   have hs8 := hB8.size
                   have hO8 := (own_keep v2 (Nat.le_refl _) hB8).alloc (.cells #[.slice (some ⟨g5, 0, none⟩) (1 + (PT.length)) k5] 26))
                | (at_builtin
                   (refine wpList_append_lies _ rfl _ _ 32 rfl (w.heap.size + 1) 26 iS _ 1 24 Try.underlying32 hiS hS0 hS1 hS2 rfl (by omega) (.slice (some ⟨g, 0, none⟩) N cap) N vs rfl hO8 ⟨w8.heap.size, 0, none⟩ 1 1 [.slice (some ⟨g5, 0, none⟩) (1 + (PT.length)) k5] rfl rfl (World.news_of_block (cs := #[.slice (some ⟨g5, 0, none⟩) (1 + (PT.length)) k5]) (t := 26) (fr := (0, 0)) (heap_alloc_new _ _)) (by simp [Value.oneCell']) (by omega) (by unfold maxLen; omega) (by omega) (by simp; omega) _ rfl ?_)
                   intro g6 k6 w9 hown9 hgr9 hat9 hlt9))
              have hI8 : Ints w8 w7.heap.size (.slice (some ⟨g5, 0, none⟩) (1 + (PT.length)) k5) ((left) :: natsI PT) := ⟨by rw [show ((left) :: natsI PT).length = 1 + (PT.length) by rw [List.length_cons, hdl]; omega]; exact hown8, by rw [List.length_cons, hdl]; unfold small; omega⟩
              have hI8' := (hI8.mono (b' := w.heap.size + 1) (by omega)).alloc1 (.cells #[.slice (some ⟨g5, 0, none⟩) (1 + (PT.length)) k5] 26)
              have hr9 := ((hr7.keep hB8).alloc1 (.cells #[.slice (some ⟨g5, 0, none⟩) (1 + (PT.length)) k5] 26)).other hO8 hgr9
              have hN := HY.out.2.2.2.1
              have hO9 : OwnRows w9 (w.heap.size + 1) g6 k6 (Ls ++ [(left) :: natsI PT]) := rows_snoc V1.out (by rw [← hN]; exact hO8) (fun k hk hk' => ((V4.out k hk hk').keep hB8).alloc1 _) hI8' (by unfold small; omega) hgr9 (by rw [← hN]; exact hown9)
              have bx9 := ((bx7.keep hB8).keep (w' := w8.alloc (.cells #[.slice (some ⟨g5, 0, none⟩) (1 + (PT.length)) k5] 26)) (by (repeat (first | (with_reducible assumption) | (with_reducible exact Below.refl _ _) | ((with_reducible refine Below.alloc ?_ ?hsz _); (case hsz => (first | omega | (simp; done) | (simp; omega) | (simp at *; omega)))) | ((with_reducible refine Below.setCell ?_ ?hsz _); (case hsz => (first | omega | (simp; done) | (simp; omega) | (simp at *; omega)))) | (with_reducible refine Below.drew ?_) | (with_reducible refine below_drewN ?_ _) | ((with_reducible refine Below.trans ?_ (Below.mono (by with_reducible assumption) ?hsz)); (case hsz => (first | omega | (simp; done) | (simp; omega) | (simp at *; omega)))))))).grown hgr9 (by intro hh; have hh2 : w.heap.size = g := (by injection hh); omega)
              have hB9 : Below w.heap.size w w9 := Below.grown (w := w8.alloc (.cells #[.slice (some ⟨g5, 0, none⟩) (1 + (PT.length)) k5] 26)) (Below.alloc (hB7.trans (hB8.mono (by omega))) (by omega) _) hgr9 (by simp; omega) (fun q hq => by have hq' : g = q := (by injection hq); omega)
              have hfin : (Ls ++ [(left) :: natsI PT]) ++ partsP ps i j f L2 (lessP (left) ys PT) = partsR n ps xs i j := by
                rw [← HY.out.2.2.2.2.1, HON.out, List.append_assoc]
                simp
              have hM9 : leftN2 (lessP (left) ys PT) L2 < f := by
                have h1 := HS.out.2.2.2.1
                have h2 := HY.out.2.1
                omega
              have hNN := Lib.hid hN
              have HF := Lib.hid (And.intro hfin (And.intro hM9 eL))
              clear hown8 hgr8 hat8 hown9 hgr9 hat9 hN hfin hM9 eL
              go_roundw
              case rel => exact ⟨f, N + 1, k6, g6, Ls ++ [(left) :: natsI PT], lessP (left) ys PT, _, _, L2, rfl, hr9, HS.out.2.2.1, HS.out.2.2.2.2.2, HF.out.2.1, by have hN := hNN.out; rw [List.length_append, ← hN]; simp; omega, by rw [List.length_append, ← hNN.out]; rfl, rfl, hO9, HF.out.1, by (first | (rw [HF.out.2.2]; done) | (rw [HF.out.2.2]; simp)), bx9, hB9⟩
              case measure => simp [sliceLen]; omega
          · obtain ⟨q, rfl⟩ : ∃ q : Nat, at2 = (q : Int) := ⟨at2.toNat, by omega⟩
            have hPW : PT = WK.drop q := by rw [hPdef]; simp
            have hD1 : D = leastP ys PT := by
              have := HS.out.2.2.2.2.1.1
              rwa [if_pos ha0] at this
            have eL : L2 = left := by
              have := HS.out.2.2.2.2.1.2
              rwa [if_pos ha0] at this
            have hq1 : q < WK.length := by omega
            have hml : (natsI PT).length = WK.length - q := by rw [hPW]; simp
            have hL : Lies w3 (.slice (some ⟨gr, q, none⟩) (WK.length - q) (cr - q)) (natsI PT) := by
              rw [hPW]
              exact ⟨gr, q, cr - q, by simp, by omega, by simp; omega, by unfold maxLen; omega, HC3.out q hq1⟩
            have hm0 : 0 < WK.length - q := by omega
            have HD1 := Lib.hid hD1
            clear hPdef hPW hD1
            by_cases hm : lw ≤ left
            all_goals
              go_wp2_with fail
              all_goals
                refine (l4Least_any bf _ _ ys PT _ hy3 hL (fun q' hq' => by have := (HS.out.2.1 q' hq').1; rw [HY.out.2.2.2.2.2.1]; exact this) s6).mono ?_
                rintro e w4 ⟨rfl, hb4⟩
                rw [← HD1.out]
                have hy6 := hy3.keep hb4
                have hL6 := hL.keep hb4
                have hO6 := hO3.keep hb4
                have bx6 := bx3.keep hb4
                have hB6 : Below w.heap.size w w4 := hB3.trans (hb4.mono hz3)
                have hs4 := hb4.size
                have hz6 := hB6.size
                have or3 : gr < w4.heap.size := by omega
                clear hy3 hL hO3 bx3 hB3 hb4 d0 d1 bs
                obtain ⟨bs, d0, d1, -, -⟩ := id bx6
                go_wp2_with fail
                refine (l4Less_any bf (D) _ _ ys PT _ hy6 hL6 (fun q' hq' => by have := (HS.out.2.1 q' hq').1; rw [HY.out.2.2.2.2.2.1]; exact this) s6 HS.out.1 HY.out.2.2.2.2.2.2 (by omega) (by rw [HY.out.2.2.2.2.2.1]; omega)).mono ?_
                rintro e w7 ⟨r7, rfl, hr7, hb7⟩
                have hlen7 : (lessP (D) ys PT).length = ps.length := by rw [less_len]; exact HY.out.2.2.2.2.2.1
                obtain ⟨A4, c4, rfl, -, -, -, -⟩ := hr7.form
                rw [hlen7] at hr7 ⊢
                have hL7 := (hL6.keep hb7).keep (w' := w7.alloc (.cells #[.int .i64 (D)] 3)) (by (repeat (first | (with_reducible assumption) | (with_reducible exact Below.refl _ _) | ((with_reducible refine Below.alloc ?_ ?hsz _); (case hsz => (first | omega | (simp; done) | (simp; omega) | (simp at *; omega)))) | ((with_reducible refine Below.setCell ?_ ?hsz _); (case hsz => (first | omega | (simp; done) | (simp; omega) | (simp at *; omega)))) | (with_reducible refine Below.drew ?_) | (with_reducible refine below_drewN ?_ _) | ((with_reducible refine Below.trans ?_ (Below.mono (by with_reducible assumption) ?hsz)); (case hsz => (first | omega | (simp; done) | (simp; omega) | (simp at *; omega)))))))
                have hO7 := hO6.keep hb7
                have bx7 := bx6.keep hb7
                have hB7 : Below w.heap.size w w7 := hB6.trans (hb7.mono hz6)
                have hs7 := hb7.size
                have hz7 := hB7.size
                obtain ⟨g9, o9, c9, hv9, -, -, -, hc9⟩ := hL7
                injection hv9 with e1 e2 e3
                injection e1 with e1
                injection e1 with e1 e4
                subst e1
                subst e4
                have hnews := news_lies hc9
                have hownL := World.ownsRow_lit (e := 3) (base := w7.heap.size) (size := 1) w7 #[.int .i64 (D)] 1 (Nat.le_refl _) (by simp [maxLen]) rfl
                obtain ⟨vs, v1, v2, v3, v4⟩ := hO7
                have hN := HY.out.2.2.2.1
                have hg1 := (v2.lt g rfl).1
                rw [← hN] at v2 v3
                have hLf := HY.out.2.2.1
                rw [← hN] at hLf
                have V4 := Lib.hid v4
                have V1 := Lib.hid v1
                have hdl := hml
                clear v4 v1 hN hlen7 hb7 hc9 e2 e3 bx6 d0 d1 bs
                go_wp2_with (first
                  | (at_builtin
                     (refine wpList_append_lies _ rfl _ _ 26 rfl w7.heap.size 3 i0 _ 1 8 Try.underlying26 hi0' hz0 hz1' hz2' rfl (by omega) (.slice (some ⟨w7.heap.size, 0, none⟩) 1 1) 1 [.int .i64 (D)] rfl hownL ⟨gr, q, none⟩ (WK.length - q) (cr - q) ((natsI PT).map (Value.int .i64)) rfl (by rw [List.length_map, Nat.mul_one]; exact hdl) hnews (by intro u' hu'; obtain ⟨y', -, rfl⟩ := List.mem_map.1 hu'; rfl) hm0 (by unfold maxLen; omega) (by omega) (by simp) _ rfl ?_)
                     intro g5 k5 w8 hown8 hgr8 hat8 hlt8
                     have hB8 : Below w7.heap.size w7 w8 := Below.grown (w := w7.alloc (.cells #[.int .i64 (D)] 3)) (by (repeat (first | (with_reducible assumption) | (with_reducible exact Below.refl _ _) | ((with_reducible refine Below.alloc ?_ ?hsz _); (case hsz => (first | omega | (simp; done) | (simp; omega) | (simp at *; omega)))) | ((with_reducible refine Below.setCell ?_ ?hsz _); (case hsz => (first | omega | (simp; done) | (simp; omega) | (simp at *; omega)))) | (with_reducible refine Below.drew ?_) | (with_reducible refine below_drewN ?_ _) | ((with_reducible refine Below.trans ?_ (Below.mono (by with_reducible assumption) ?hsz)); (case hsz => (first | omega | (simp; done) | (simp; omega) | (simp at *; omega))))))) hgr8 (by (first | omega | (simp; done) | (simp; omega) | (simp at *; omega))) (fun q hq => by have hq' : w7.heap.size = q := (by injection hq); omega)
                     have hs8 := hB8.size
                     have hO8 := (own_keep v2 (Nat.le_refl _) hB8).alloc (.cells #[.slice (some ⟨g5, 0, none⟩) (1 + (WK.length - q)) k5] 26))
                  | (at_builtin
                     (refine wpList_append_lies _ rfl _ _ 32 rfl (w.heap.size + 1) 26 iS _ 1 24 Try.underlying32 hiS hS0 hS1 hS2 rfl (by omega) (.slice (some ⟨g, 0, none⟩) N cap) N vs rfl hO8 ⟨w8.heap.size, 0, none⟩ 1 1 [.slice (some ⟨g5, 0, none⟩) (1 + (WK.length - q)) k5] rfl rfl (World.news_of_block (cs := #[.slice (some ⟨g5, 0, none⟩) (1 + (WK.length - q)) k5]) (t := 26) (fr := (0, 0)) (heap_alloc_new _ _)) (by simp [Value.oneCell']) (by omega) (by unfold maxLen; omega) (by omega) (by simp; omega) _ rfl ?_)
                     intro g6 k6 w9 hown9 hgr9 hat9 hlt9))
                have hI8 : Ints w8 w7.heap.size (.slice (some ⟨g5, 0, none⟩) (1 + (WK.length - q)) k5) ((D) :: natsI PT) := ⟨by rw [show ((D) :: natsI PT).length = 1 + (WK.length - q) by rw [List.length_cons, hdl]; omega]; exact hown8, by rw [List.length_cons, hdl]; unfold small; omega⟩
                have hI8' := (hI8.mono (b' := w.heap.size + 1) (by omega)).alloc1 (.cells #[.slice (some ⟨g5, 0, none⟩) (1 + (WK.length - q)) k5] 26)
                have hr9 := ((hr7.keep hB8).alloc1 (.cells #[.slice (some ⟨g5, 0, none⟩) (1 + (WK.length - q)) k5] 26)).other hO8 hgr9
                have hN := HY.out.2.2.2.1
                have hO9 : OwnRows w9 (w.heap.size + 1) g6 k6 (Ls ++ [(D) :: natsI PT]) := rows_snoc V1.out (by rw [← hN]; exact hO8) (fun k hk hk' => ((V4.out k hk hk').keep hB8).alloc1 _) hI8' (by unfold small; omega) hgr9 (by rw [← hN]; exact hown9)
                have bx9 := ((bx7.keep hB8).keep (w' := w8.alloc (.cells #[.slice (some ⟨g5, 0, none⟩) (1 + (WK.length - q)) k5] 26)) (by (repeat (first | (with_reducible assumption) | (with_reducible exact Below.refl _ _) | ((with_reducible refine Below.alloc ?_ ?hsz _); (case hsz => (first | omega | (simp; done) | (simp; omega) | (simp at *; omega)))) | ((with_reducible refine Below.setCell ?_ ?hsz _); (case hsz => (first | omega | (simp; done) | (simp; omega) | (simp at *; omega)))) | (with_reducible refine Below.drew ?_) | (with_reducible refine below_drewN ?_ _) | ((with_reducible refine Below.trans ?_ (Below.mono (by with_reducible assumption) ?hsz)); (case hsz => (first | omega | (simp; done) | (simp; omega) | (simp at *; omega)))))))).grown hgr9 (by intro hh; have hh2 : w.heap.size = g := (by injection hh); omega)
                have hB9 : Below w.heap.size w w9 := Below.grown (w := w8.alloc (.cells #[.slice (some ⟨g5, 0, none⟩) (1 + (WK.length - q)) k5] 26)) (Below.alloc (hB7.trans (hB8.mono (by omega))) (by omega) _) hgr9 (by simp; omega) (fun q hq => by have hq' : g = q := (by injection hq); omega)
                have hfin : (Ls ++ [(D) :: natsI PT]) ++ partsP ps i j f L2 (lessP (D) ys PT) = partsR n ps xs i j := by
                  rw [← HY.out.2.2.2.2.1, HON.out, List.append_assoc]
                  simp
                have hM9 : leftN2 (lessP (D) ys PT) L2 < f := by
                  have h1 := HS.out.2.2.2.1
                  have h2 := HY.out.2.1
                  omega
                have hNN := Lib.hid hN
                have HF := Lib.hid (And.intro hfin (And.intro hM9 eL))
                clear hown8 hgr8 hat8 hown9 hgr9 hat9 hN hfin hM9 eL
                go_roundw
                case rel => exact ⟨f, N + 1, k6, g6, Ls ++ [(D) :: natsI PT], lessP (D) ys PT, _, _, L2, rfl, hr9, HS.out.2.2.1, HS.out.2.2.2.2.2, HF.out.2.1, by have hN := hNN.out; rw [List.length_append, ← hN]; simp; omega, by rw [List.length_append, ← hNN.out]; rfl, rfl, hO9, HF.out.1, by (first | (rw [HF.out.2.2]; done) | (rw [HF.out.2.2]; simp)), bx9, hB9⟩
                case measure => simp [sliceLen]; omega
        · have hld : decide (0 < left) = false := decide_eq_false hleft
          have hbal := HY.out.1.done hleft Hl0.out
          have HOFF := Lib.hid (parts_off' (ps := ps) (a := i) (b := j) (xs := ys) (f := f) hleft)
          have hfl2 := bal_flow hbal
          go_wp2_with fail
          with_reducible refine (l4Rings_any n _ _ ps ys b bf _ ((hp0.keep hB).keep (by (repeat (first | (with_reducible assumption) | (with_reducible exact Below.refl _ _) | ((with_reducible refine Below.alloc ?_ ?hsz _); (case hsz => (first | omega | (simp; done) | (simp; omega) | (simp at *; omega)))) | ((with_reducible refine Below.setCell ?_ ?hsz _); (case hsz => (first | omega | (simp; done) | (simp; omega) | (simp at *; omega)))) | (with_reducible refine Below.drew ?_) | (with_reducible refine below_drewN ?_ _) | ((with_reducible refine Below.trans ?_ (Below.mono (by with_reducible assumption) ?hsz)); (case hsz => (first | omega | (simp; done) | (simp; omega) | (simp at *; omega)))))))) (hy.keep (by (repeat (first | (with_reducible assumption) | (with_reducible exact Below.refl _ _) | ((with_reducible refine Below.alloc ?_ ?hsz _); (case hsz => (first | omega | (simp; done) | (simp; omega) | (simp at *; omega)))) | ((with_reducible refine Below.setCell ?_ ?hsz _); (case hsz => (first | omega | (simp; done) | (simp; omega) | (simp at *; omega)))) | (with_reducible refine Below.drew ?_) | (with_reducible refine below_drewN ?_ _) | ((with_reducible refine Below.trans ?_ (Below.mono (by with_reducible assumption) ?hsz)); (case hsz => (first | omega | (simp; done) | (simp; omega) | (simp at *; omega)))))))) (flowOk_parts hfl2).2.1 HP.out.1 (flow_getD hfl2)).mono ?_
          rintro e w5 ⟨g6, k6, rfl, hR, hb5⟩
          obtain ⟨vs, v1, v2, v3, v4⟩ := hO
          obtain ⟨us, u1, u2, u3, u4⟩ := hR
          have hN := HY.out.2.2.2.1
          have hLf := HY.out.2.2.1
          have hfew : (ringsL ps ys).length ≤ 8 := rings_few8 (ps := ps) 8 ys
          have v2' := own_keep v2 (Nat.le_refl _) hb5
          have v4' : ∀ k (h : k < Ls.length) (h' : k < vs.length), Ints w5 (w.heap.size + 1) vs[k] Ls[k] := fun k hk hk' => (v4 k hk hk').keep hb5
          have u4' : ∀ k (h : k < (ringsL ps ys).length) (h' : k < us.length), Ints w5 (w.heap.size + 1) us[k] (ringsL ps ys)[k] := fun k hk hk' => (u4 k hk hk').mono (by omega)
          have hsrc := rows_src' u2 u1 u4
          have hB5 : Below w.heap.size w w5 := hB.trans (hb5.mono hzb)
          have hz5 := hB5.size
          have hs5 := hb5.size
          obtain ⟨M, hM⟩ : ∃ M, (ringsL ps ys).length = M := ⟨_, rfl⟩
          rw [← hN] at v2'
          rw [hM] at hsrc hfew ⊢
          have HE := Lib.hid (And.intro v1 (And.intro u1 (And.intro v4' (And.intro u4' hM))))
          have hrow : ∀ q', (Value.slice (some ⟨g, 0, none⟩) N cap).ownBlock = some q' → w.heap.size + 1 ≤ q' := fun q' hq => (v2'.lt q' hq).1
          clear v1 u1 v4' u4' hM v2 v3 v4 u2 u3 u4 hN hbal hfl2
          go_wp2_with (first
            | (at_builtin
               go_must (refine wpList_append_src rfl _ _ 32 rfl (w.heap.size + 1) 26 iS _ 1 24 Try.underlying32 hiS hS0 hS1 hS2 rfl (by omega) _ _ N M vs us rfl rfl v2' hsrc (by unfold maxLen; have := HY.out.2.2.2.1; omega) (by have := HY.out.2.2.2.1; omega) (by omega) ?_)
               intro r w7 hown7 hgr7 hat7))
          have hN := HY.out.2.2.2.1
          have hB7 : Below w.heap.size w w7 := Below.grown hB5 hgr7 hz5 (fun q hq => by have := hrow q hq; omega)
          have hrs : ∃ g7, r.ownBlock = some g7 := by
            rcases hat7 with h | h
            · exact ⟨g, h⟩
            · exact ⟨_, h⟩
          obtain ⟨g7, hg7⟩ := hrs
          obtain ⟨c7, rfl⟩ := own_some hown7 hg7
          rw [hN, ← HE.out.2.2.2.2] at hown7
          have hfin : OwnRows w7 (w.heap.size + 1) g7 c7 (Ls ++ ringsL ps ys) := rows_app HE.out.1 HE.out.2.1 (by rw [← hN]; exact v2') HE.out.2.2.1 HE.out.2.2.2.1 (by have := HE.out.2.2.2.2; unfold small; omega) hgr7 hown7
          have Hcat := Lib.hid (show Ls ++ ringsL ps ys = partsR n ps xs i j by rw [← HY.out.2.2.2.2.1, HOFF.out])
          have hlenR : (partsR n ps xs i j).length = N + M := by rw [← Hcat.out, List.length_append, HE.out.2.2.2.2, hN]
          have HLR := Lib.hid hlenR
          clear hown7 hgr7 hat7 hlenR
          go_ret2
          refine ⟨g7, c7, by rw [HLR.out]; rfl, ?_, hB7⟩
          rw [← Hcat.out]
          obtain ⟨vs', x1, x2, x3, x4⟩ := hfin
          exact ⟨vs', x1, own_mono x2 (by omega), x3, fun k hk hk' => (x4 k hk hk').mono (by omega)⟩

theorem own_lit0 {w : World} {b : Nat} (hb : b ≤ w.heap.size) : OwnRows (w.alloc (.cells #[] 26)) b w.heap.size 0 [] :=
  ⟨[], rfl, World.ownsRow_lit (e := 26) (base := b) (size := 1) w #[] 0 hb (by simp [maxLen]) rfl, by simp [small], fun k hk => absurd hk (by simp)⟩

set_option maxHeartbeats 2000000 in
set_option maxRecDepth 20000 in
theorem specPartsTop_any (n i j : Int) (v u : Value) (ps : List Pp) (xs : List Int) (b b' : Nat) (w : World) (hp : Pipes w b v ps) (hx : Ints w b' u xs) :
    Calls Try.prog 29 #[.agg #[.int .i64 n, v], u, .int .i64 i, .int .i64 j] w fun e w' => ∃ g cap : Nat, e = .returned (.tuple #[.slice (some ⟨g, 0, none⟩) (partsR n ps xs i j).length cap, .bool (partsOkB n ps xs i j)]) ∧ OwnRows w' w.heap.size g cap (partsR n ps xs i j) ∧ Below w.heap.size w w' := by
  by_cases hok : partsOkB n ps xs i j = true
  · rw [hok]; exact specPartsIn_any n i j v u ps xs b b' w hp hx hok
  · have hok' : partsOkB n ps xs i j = false := by simpa using hok
    have Hno := Lib.hid (parts_no' hok')
    have Hf := Lib.hid hok'
    have hp0 := hp
    have hx0 := hx
    obtain ⟨A, c, rfl, -, -, -, -⟩ := hp.form
    obtain ⟨A0, c0, rfl, -, -, -, -⟩ := hx.form
    have bx0 := Box2.new w (.int .i64 n) (.slice A ps.length c) 25
    clear hok
    go_enter Try.func29, Try.ntmps29
    go_wp2_with fail
    refine (specFlowOk_any n _ _ ps xs b b' _ (hp0.keep (by (repeat (first | (with_reducible assumption) | (with_reducible exact Below.refl _ _) | ((with_reducible refine Below.alloc ?_ ?hsz _); (case hsz => (first | omega | (simp; done) | (simp; omega) | (simp at *; omega)))) | ((with_reducible refine Below.setCell ?_ ?hsz _); (case hsz => (first | omega | (simp; done) | (simp; omega) | (simp at *; omega)))) | (with_reducible refine Below.drew ?_) | (with_reducible refine below_drewN ?_ _) | ((with_reducible refine Below.trans ?_ (Below.mono (by with_reducible assumption) ?hsz)); (case hsz => (first | omega | (simp; done) | (simp; omega) | (simp at *; omega)))))))) (hx0.keep (by (repeat (first | (with_reducible assumption) | (with_reducible exact Below.refl _ _) | ((with_reducible refine Below.alloc ?_ ?hsz _); (case hsz => (first | omega | (simp; done) | (simp; omega) | (simp at *; omega)))) | ((with_reducible refine Below.setCell ?_ ?hsz _); (case hsz => (first | omega | (simp; done) | (simp; omega) | (simp at *; omega)))) | (with_reducible refine Below.drew ?_) | (with_reducible refine below_drewN ?_ _) | ((with_reducible refine Below.trans ?_ (Below.mono (by with_reducible assumption) ?hsz)); (case hsz => (first | omega | (simp; done) | (simp; omega) | (simp at *; omega))))))))).mono ?_
    rintro e w1 ⟨rfl, hb1⟩
    have bx1 := bx0.keep hb1
    have hB1 : Below w.heap.size w w1 := by (repeat (first | (with_reducible assumption) | (with_reducible exact Below.refl _ _) | ((with_reducible refine Below.alloc ?_ ?hsz _); (case hsz => (first | omega | (simp; done) | (simp; omega) | (simp at *; omega)))) | ((with_reducible refine Below.setCell ?_ ?hsz _); (case hsz => (first | omega | (simp; done) | (simp; omega) | (simp at *; omega)))) | (with_reducible refine Below.drew ?_) | (with_reducible refine below_drewN ?_ _) | ((with_reducible refine Below.trans ?_ (Below.mono (by with_reducible assumption) ?hsz)); (case hsz => (first | omega | (simp; done) | (simp; omega) | (simp at *; omega))))))
    clear bx0 hb1
    obtain ⟨bs, d0, d1, -, -⟩ := id bx1
    by_cases hfl : flowOkB n ps xs = true
    · rw [hfl]
      go_wp2_with fail
      refine (ends_any n i j _ ps b _ ((hp0.keep hB1).keep (by (repeat (first | (with_reducible assumption) | (with_reducible exact Below.refl _ _) | ((with_reducible refine Below.alloc ?_ ?hsz _); (case hsz => (first | omega | (simp; done) | (simp; omega) | (simp at *; omega)))) | ((with_reducible refine Below.setCell ?_ ?hsz _); (case hsz => (first | omega | (simp; done) | (simp; omega) | (simp at *; omega)))) | (with_reducible refine Below.drew ?_) | (with_reducible refine below_drewN ?_ _) | ((with_reducible refine Below.trans ?_ (Below.mono (by with_reducible assumption) ?hsz)); (case hsz => (first | omega | (simp; done) | (simp; omega) | (simp at *; omega))))))))).mono ?_
      rintro e w2 ⟨rfl, hb2⟩
      have bx2 := bx1.keep hb2
      have hB2 : Below w.heap.size w w2 := by (repeat (first | (with_reducible assumption) | (with_reducible exact Below.refl _ _) | ((with_reducible refine Below.alloc ?_ ?hsz _); (case hsz => (first | omega | (simp; done) | (simp; omega) | (simp at *; omega)))) | ((with_reducible refine Below.setCell ?_ ?hsz _); (case hsz => (first | omega | (simp; done) | (simp; omega) | (simp at *; omega)))) | (with_reducible refine Below.drew ?_) | (with_reducible refine below_drewN ?_ _) | ((with_reducible refine Below.trans ?_ (Below.mono (by with_reducible assumption) ?hsz)); (case hsz => (first | omega | (simp; done) | (simp; omega) | (simp at *; omega))))))
      clear bx1 hb2 d0 d1 bs
      obtain ⟨bs, d0, d1, -, -⟩ := id bx2
      by_cases he : endsB n ps i j = true
      · rw [he]
        have hfb : flowsB n ps xs i j = false := by
          have := hok'
          rw [partsOkB, hfl, he] at this
          simpa using this
        have n2 := (netOk_parts (flowOk_parts hfl).1).1
        have n5 := (netOk_parts (flowOk_parts hfl).1).2.1
        have HFB := Lib.hid (And.intro hfb hfl)
        clear hok' hfb hfl
        go_wp2
        go_loopw [10] (fun t wr => ∃ k : Nat, (k : Int) ≤ n ∧ t = .int .i64 k ∧ (∀ q : Nat, q < k → (q : Int) = i ∨ (q : Int) = j ∨ exc (q : Int) ps xs = 0) ∧ Box2 wr w.heap.size (.int .i64 n) (.slice A ps.length c) ∧ Below w.heap.size w wr) (fun t _ => (n - intOf t).toNat)
        case atStart => exact ⟨0, by omega, rfl, fun q hq => absurd hq (by omega), bx2, hB2⟩
        case round =>
          clear bx2 d0 d1 bs
          obtain ⟨k, hk, rfl, hall, bx, hB⟩ := hrel
          have Hall := Lib.hid hall
          clear hall
          obtain ⟨bs, d0, d1, -, -⟩ := id bx
          have next : ∀ (h : (k : Int) = i ∨ (k : Int) = j ∨ exc (k : Int) ps xs = 0), Hid (∀ q : Nat, q < k + 1 → (q : Int) = i ∨ (q : Int) = j ∨ exc (q : Int) ps xs = 0) := fun h => Lib.hid (by
            intro q hq
            rcases Nat.lt_succ_iff_lt_or_eq.1 hq with hq | hq
            · exact Hall.out q hq
            · subst hq; exact h)
          have HN := Lib.hid next
          clear next
          by_cases hlt : (k : Int) < n
          · have hltd : decide ((k : Int) < n) = true := decide_eq_true hlt
            by_cases hi : (k : Int) = i
            · have Hn := HN.out (.inl hi)
              have hib : ((k : Int) != i) = false := by simp [hi]
              clear hi
              go_wp2
              go_roundw
              case rel => exact ⟨k + 1, by omega, by go_num, Hn.out, bx, hB⟩
              case measure => simp [intOf]; omega
            · have hib : ((k : Int) != i) = true := by simpa using hi
              clear hi
              by_cases hj : (k : Int) = j
              · have Hn := HN.out (.inr (.inl hj))
                have hjb : ((k : Int) != j) = false := by simp [hj]
                clear hj
                go_wp2
                go_roundw
                case rel => exact ⟨k + 1, by omega, by go_num, Hn.out, bx, hB⟩
                case measure => simp [intOf]; omega
              · have hjb : ((k : Int) != j) = true := by simpa using hj
                clear hj
                go_wp2_with fail
                refine (specExcess_any (k : Int) n _ _ ps xs b b' _ ((hp0.keep hB).keep (by (repeat (first | (with_reducible assumption) | (with_reducible exact Below.refl _ _) | ((with_reducible refine Below.alloc ?_ ?hsz _); (case hsz => (first | omega | (simp; done) | (simp; omega) | (simp at *; omega)))) | ((with_reducible refine Below.setCell ?_ ?hsz _); (case hsz => (first | omega | (simp; done) | (simp; omega) | (simp at *; omega)))) | (with_reducible refine Below.drew ?_) | (with_reducible refine below_drewN ?_ _) | ((with_reducible refine Below.trans ?_ (Below.mono (by with_reducible assumption) ?hsz)); (case hsz => (first | omega | (simp; done) | (simp; omega) | (simp at *; omega)))))))) ((hx0.keep hB).keep (by (repeat (first | (with_reducible assumption) | (with_reducible exact Below.refl _ _) | ((with_reducible refine Below.alloc ?_ ?hsz _); (case hsz => (first | omega | (simp; done) | (simp; omega) | (simp at *; omega)))) | ((with_reducible refine Below.setCell ?_ ?hsz _); (case hsz => (first | omega | (simp; done) | (simp; omega) | (simp at *; omega)))) | (with_reducible refine Below.drew ?_) | (with_reducible refine below_drewN ?_ _) | ((with_reducible refine Below.trans ?_ (Below.mono (by with_reducible assumption) ?hsz)); (case hsz => (first | omega | (simp; done) | (simp; omega) | (simp at *; omega)))))))) HFB.out.2).mono ?_
                rintro e w5 ⟨rfl, hb5⟩
                have bx5 := bx.keep hb5
                have hB5 : Below w.heap.size w w5 := by (repeat (first | (with_reducible assumption) | (with_reducible exact Below.refl _ _) | ((with_reducible refine Below.alloc ?_ ?hsz _); (case hsz => (first | omega | (simp; done) | (simp; omega) | (simp at *; omega)))) | ((with_reducible refine Below.setCell ?_ ?hsz _); (case hsz => (first | omega | (simp; done) | (simp; omega) | (simp at *; omega)))) | (with_reducible refine Below.drew ?_) | (with_reducible refine below_drewN ?_ _) | ((with_reducible refine Below.trans ?_ (Below.mono (by with_reducible assumption) ?hsz)); (case hsz => (first | omega | (simp; done) | (simp; omega) | (simp at *; omega))))))
                have hz5 := hB5.size
                clear bx hb5 d0 d1 bs
                by_cases he : exc (k : Int) ps xs = 0
                · have Hn := HN.out (.inr (.inr he))
                  have heb : (exc (k : Int) ps xs != 0) = false := by simp [he]
                  clear he
                  go_wp2
                  go_roundw
                  case rel => exact ⟨k + 1, by omega, by go_num, Hn.out, bx5, hB5⟩
                  case measure => simp [intOf]; omega
                · have heb : (exc (k : Int) ps xs != 0) = true := by simpa using he
                  clear he
                  go_wp2
                  go_ret2
                  exact ⟨_, 0, by rw [Hf.out, Hno.out]; rfl, by rw [Hno.out]; exact own_lit0 hB5.size, by (repeat (first | (with_reducible assumption) | (with_reducible exact Below.refl _ _) | ((with_reducible refine Below.alloc ?_ ?hsz _); (case hsz => (first | omega | (simp; done) | (simp; omega) | (simp at *; omega)))) | ((with_reducible refine Below.setCell ?_ ?hsz _); (case hsz => (first | omega | (simp; done) | (simp; omega) | (simp at *; omega)))) | (with_reducible refine Below.drew ?_) | (with_reducible refine below_drewN ?_ _) | ((with_reducible refine Below.trans ?_ (Below.mono (by with_reducible assumption) ?hsz)); (case hsz => (first | omega | (simp; done) | (simp; omega) | (simp at *; omega))))))⟩
          · have hltd : decide ((k : Int) < n) = false := decide_eq_false hlt
            have Hr := Lib.hid (flows_all' (n := n) (i := i) (j := j) (ps := ps) (xs := xs) fun q hq => Hall.out q (by omega))
            go_wp2_with fail
            refine (specExcess_any j n _ _ ps xs b b' _ ((hp0.keep hB).keep (by (repeat (first | (with_reducible assumption) | (with_reducible exact Below.refl _ _) | ((with_reducible refine Below.alloc ?_ ?hsz _); (case hsz => (first | omega | (simp; done) | (simp; omega) | (simp at *; omega)))) | ((with_reducible refine Below.setCell ?_ ?hsz _); (case hsz => (first | omega | (simp; done) | (simp; omega) | (simp at *; omega)))) | (with_reducible refine Below.drew ?_) | (with_reducible refine below_drewN ?_ _) | ((with_reducible refine Below.trans ?_ (Below.mono (by with_reducible assumption) ?hsz)); (case hsz => (first | omega | (simp; done) | (simp; omega) | (simp at *; omega)))))))) ((hx0.keep hB).keep (by (repeat (first | (with_reducible assumption) | (with_reducible exact Below.refl _ _) | ((with_reducible refine Below.alloc ?_ ?hsz _); (case hsz => (first | omega | (simp; done) | (simp; omega) | (simp at *; omega)))) | ((with_reducible refine Below.setCell ?_ ?hsz _); (case hsz => (first | omega | (simp; done) | (simp; omega) | (simp at *; omega)))) | (with_reducible refine Below.drew ?_) | (with_reducible refine below_drewN ?_ _) | ((with_reducible refine Below.trans ?_ (Below.mono (by with_reducible assumption) ?hsz)); (case hsz => (first | omega | (simp; done) | (simp; omega) | (simp at *; omega)))))))) HFB.out.2).mono ?_
            rintro e w5 ⟨rfl, hb5⟩
            have hB5 : Below w.heap.size w w5 := by (repeat (first | (with_reducible assumption) | (with_reducible exact Below.refl _ _) | ((with_reducible refine Below.alloc ?_ ?hsz _); (case hsz => (first | omega | (simp; done) | (simp; omega) | (simp at *; omega)))) | ((with_reducible refine Below.setCell ?_ ?hsz _); (case hsz => (first | omega | (simp; done) | (simp; omega) | (simp at *; omega)))) | (with_reducible refine Below.drew ?_) | (with_reducible refine below_drewN ?_ _) | ((with_reducible refine Below.trans ?_ (Below.mono (by with_reducible assumption) ?hsz)); (case hsz => (first | omega | (simp; done) | (simp; omega) | (simp at *; omega))))))
            have hz5 := hB5.size
            have hnd : decide (exc j ps xs < 0) = true := by
              have := Hr.out
              rw [HFB.out.1] at this
              have := of_decide_eq_false this.symm
              exact decide_eq_true (by omega)
            go_wp2
            go_ret2
            exact ⟨_, 0, by rw [Hf.out, Hno.out]; rfl, by rw [Hno.out]; exact own_lit0 hB5.size, by (repeat (first | (with_reducible assumption) | (with_reducible exact Below.refl _ _) | ((with_reducible refine Below.alloc ?_ ?hsz _); (case hsz => (first | omega | (simp; done) | (simp; omega) | (simp at *; omega)))) | ((with_reducible refine Below.setCell ?_ ?hsz _); (case hsz => (first | omega | (simp; done) | (simp; omega) | (simp at *; omega)))) | (with_reducible refine Below.drew ?_) | (with_reducible refine below_drewN ?_ _) | ((with_reducible refine Below.trans ?_ (Below.mono (by with_reducible assumption) ?hsz)); (case hsz => (first | omega | (simp; done) | (simp; omega) | (simp at *; omega))))))⟩
      · have he' : endsB n ps i j = false := by simpa using he
        rw [he']
        go_wp2
        go_ret2
        exact ⟨_, 0, by rw [Hf.out, Hno.out]; rfl, by rw [Hno.out]; exact own_lit0 hB2.size, by (repeat (first | (with_reducible assumption) | (with_reducible exact Below.refl _ _) | ((with_reducible refine Below.alloc ?_ ?hsz _); (case hsz => (first | omega | (simp; done) | (simp; omega) | (simp at *; omega)))) | ((with_reducible refine Below.setCell ?_ ?hsz _); (case hsz => (first | omega | (simp; done) | (simp; omega) | (simp at *; omega)))) | (with_reducible refine Below.drew ?_) | (with_reducible refine below_drewN ?_ _) | ((with_reducible refine Below.trans ?_ (Below.mono (by with_reducible assumption) ?hsz)); (case hsz => (first | omega | (simp; done) | (simp; omega) | (simp at *; omega))))))⟩
    · have hfl' : flowOkB n ps xs = false := by simpa using hfl
      rw [hfl']
      go_wp2
      go_ret2
      exact ⟨_, 0, by rw [Hf.out, Hno.out]; rfl, by rw [Hno.out]; exact own_lit0 hB1.size, by (repeat (first | (with_reducible assumption) | (with_reducible exact Below.refl _ _) | ((with_reducible refine Below.alloc ?_ ?hsz _); (case hsz => (first | omega | (simp; done) | (simp; omega) | (simp at *; omega)))) | ((with_reducible refine Below.setCell ?_ ?hsz _); (case hsz => (first | omega | (simp; done) | (simp; omega) | (simp at *; omega)))) | (with_reducible refine Below.drew ?_) | (with_reducible refine below_drewN ?_ _) | ((with_reducible refine Below.trans ?_ (Below.mono (by with_reducible assumption) ?hsz)); (case hsz => (first | omega | (simp; done) | (simp; omega) | (simp at *; omega))))))⟩

end Go.Proofs.Ytlaeckjfjleplaa

/- PartsOf, as its exact law calls it. -/
namespace Go.Proofs.Ytlaeckjfjleplaa
open Go.RowKit

theorem parts_rows {n a b : Int} {ps : List Pp} : ∀ (f : Nat) (left : Int) (xs : List Int), PartSt n ps xs a b left → 0 ≤ left → ∀ L ∈ partsP ps a b f left xs, 2 ≤ L.length ∧ L.length ≤ 7 := by
  intro f
  induction f with
  | zero => intro left xs _ _ L hL; simp [partsP] at hL
  | succ f ih =>
    intro left xs hst h0 L hL
    obtain ⟨hn, hlen, -⟩ := flowOk_parts hst.flow
    obtain ⟨n2, n5, -, hpo⟩ := netOk_parts hn
    by_cases hl : 0 < left
    · rw [parts_on hl] at hL
      obtain ⟨sne, -, -, s6, -, -, sL0, sst, -⟩ := hst.step hl
      rcases List.mem_cons.1 hL with rfl | hL
      · have h3 := List.length_pos_iff.2 sne
        simp only [List.length_cons, natsI, List.length_map]
        omega
      · exact ih _ _ sst sL0 L hL
    · rw [parts_off hl] at hL
      exact rings_each (fun p hp => by obtain ⟨p0, p1, p2, p3, -⟩ := pipeOk_parts (hpo p hp); exact ⟨p0, p1, p2, p3⟩) n5 8 xs hlen (flow_getD hst.flow) L hL
theorem parts_few {a b : Int} {ps : List Pp} : ∀ (f : Nat) (left : Int) (xs : List Int), (partsP ps a b f left xs).length ≤ f + 8 := by
  intro f
  induction f with
  | zero => intro left xs; simp [partsP]
  | succ f ih =>
    intro left xs
    by_cases hl : 0 < left
    · rw [parts_on hl, List.length_cons]
      have := ih (partL ps xs a b left) (lessP (partD ps xs a b left) xs (partP ps xs a b))
      omega
    · rw [parts_off hl]
      have := rings_few8 (ps := ps) 8 xs
      unfold ringsL
      omega
theorem partsR_each {n a b : Int} {ps : List Pp} {xs : List Int} : ∀ L ∈ partsR n ps xs a b, 2 ≤ L.length ∧ L.length ≤ 7 := by
  intro L hL
  by_cases h : partsOkB n ps xs a b = true
  · rw [parts_yes h] at hL
    obtain ⟨h1, h2⟩ := PartSt.of h
    exact parts_rows 10 _ _ h1 h2 L hL
  · rw [parts_no (by simpa using h)] at hL; simp at hL
theorem partsR_few {n a b : Int} {ps : List Pp} {xs : List Int} : (partsR n ps xs a b).length ≤ 18 := by
  by_cases h : partsOkB n ps xs a b = true
  · rw [parts_yes h]; exact parts_few 10 _ _
  · rw [parts_no (by simpa using h)]; simp
theorem partsR_off (n : Int) (ps : List Pp) (xs : List Int) (a b : Int) : off (partsR n ps xs a b) (partsR n ps xs a b).length ≤ 1000000 := by
  have h := off_bd (Ls := partsR n ps xs a b) (B := 7) (fun L hL => (partsR_each L hL).2)
  have := partsR_few (n := n) (ps := ps) (xs := xs) (a := a) (b := b)
  omega
theorem parts_ex (n i j : Int) (v u : Value) (ps : List Pp) (xs : List Int) (b b' : Nat) (w : World) (hp : Pipes w b v ps) (hx : Ints w b' u xs) :
    Calls Try.prog 28 #[.agg #[.int .i64 n, v], u, .int .i64 i, .int .i64 j] w fun e w' => ∃ r, e = .returned (.tuple #[r, .bool (partsOkB n ps xs i j)]) ∧ RowsM w' w.heap.size w'.heap.size r (partsR n ps xs i j) ∧ Below w.heap.size w w' := by
  refine (partsTop_any n i j v u ps xs b b' w hp hx).mono ?_
  rintro e w' ⟨r, rfl, h, hb⟩
  exact ⟨r, rfl, h.toM, hb⟩
theorem specParts_ex (n i j : Int) (v u : Value) (ps : List Pp) (xs : List Int) (b b' : Nat) (w : World) (hp : Pipes w b v ps) (hx : Ints w b' u xs) :
    Calls Try.prog 29 #[.agg #[.int .i64 n, v], u, .int .i64 i, .int .i64 j] w fun e w' => ∃ r, e = .returned (.tuple #[r, .bool (partsOkB n ps xs i j)]) ∧ RowsB w' w.heap.size w'.heap.size r (partsR n ps xs i j) ∧ Below w.heap.size w w' := by
  refine (specPartsTop_any n i j v u ps xs b b' w hp hx).mono ?_
  rintro e w' ⟨g, cap, rfl, h, hb⟩
  exact ⟨_, rfl, h.toB, hb⟩

end Go.Proofs.Ytlaeckjfjleplaa
