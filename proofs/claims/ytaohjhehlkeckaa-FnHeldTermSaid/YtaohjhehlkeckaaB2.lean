/- Contracts of the functions of chapter 9 in the program: rows of marks copied, DualTerm. -/
import Derived.Test.YtaohjhehlkeckaaB1
import Derived.Test.YtaohjhehlkeckaaF2
import Derived.Test.YtaohjhehlkeckaaAR
import Derived.Test.YtaohjhehlkeckaaDM
import Derived.Lib.SliceRun
import Derived.Lib.BufferMore
namespace Go.Proofs.Ytaohjhehlkeckaa
open Go.RowKit

set_option maxHeartbeats 1000000 in
set_option maxRecDepth 20000 in
theorem cloneMarks_any (v : Value) (ts : List Mk) (b : Nat) (w : World) (hp : Marks w b v ts) (hs : ts.length ≤ 1048576) :
    Calls Try.prog 39 #[v] w fun e w' => ∃ r, e = .returned r ∧ Marks w' w.heap.size r ts ∧ Below w.heap.size w w' := by
  obtain ⟨i0, hi0, hz0, hz1, hz2⟩ := info_parts mark_info
  rcases hp.1.2 with ⟨rfl, hn⟩ | ⟨g, cap, cur, rfl, -, -, -, -, -, -⟩
  · have hps : ts = [] := List.eq_nil_of_length_eq_zero hn
    subst hps
    go_enter Try.func39, Try.ntmps39
    have hnil : ∀ W : World, (binOp .eql 23 (.slice none 0 0) (.slice none 0 0)).run Try.prog W = .ok (.bool true) W := fun W => Lib.run_eql_slice_nil W _ _ none 0 0 0 0 Try.underlying23
    go_wp2
    go_ret
    exact ⟨_, rfl, Marks_nil _ _, by (repeat (first | (with_reducible assumption) | (with_reducible exact Below.refl _ _) | ((with_reducible refine Below.alloc ?_ ?hsz _); (case hsz => (first | omega | (simp; done) | (simp; omega) | (simp at *; omega)))) | ((with_reducible refine Below.setCell ?_ ?hsz _); (case hsz => (first | omega | (simp; done) | (simp; omega) | (simp at *; omega)))) | (with_reducible refine Below.drew ?_) | (with_reducible refine below_drewN ?_ _) | ((with_reducible refine Below.trans ?_ (Below.mono (by with_reducible assumption) ?hsz)); (case hsz => (first | omega | (simp; done) | (simp; omega) | (simp at *; omega))))))⟩
  · have hnil : ∀ W : World, (binOp .eql 23 (.slice (some ⟨g, 0, none⟩) ts.length cap) (.slice none 0 0)).run Try.prog W = .ok (.bool false) W := fun W => Lib.run_eql_slice_some_nil W _ _ _ Try.underlying23
    have hown0 := World.ownsRow_lit (e := 33) (base := w.heap.size) (size := 3) w #[] 0 (Nat.le_refl _) (by simp [maxLen]) rfl
    have hsrc0 : SrcOk (w.alloc (.cells #[] 33)) 3 (.slice (some ⟨g, 0, none⟩) ts.length cap) ts.length (ts.flatMap Mk.cells) := (hp.keep (by (repeat (first | (with_reducible assumption) | (with_reducible exact Below.refl _ _) | ((with_reducible refine Below.alloc ?_ ?hsz _); (case hsz => (first | omega | (simp; done) | (simp; omega) | (simp at *; omega)))) | ((with_reducible refine Below.setCell ?_ ?hsz _); (case hsz => (first | omega | (simp; done) | (simp; omega) | (simp at *; omega)))) | (with_reducible refine Below.drew ?_) | (with_reducible refine below_drewN ?_ _) | ((with_reducible refine Below.trans ?_ (Below.mono (by with_reducible assumption) ?hsz)); (case hsz => (first | omega | (simp; done) | (simp; omega) | (simp at *; omega)))))))).src
    go_enter Try.func39, Try.ntmps39
    go_wp2_with (first
      | (at_builtin
         go_must (refine wpList_append_src rfl _ _ 23 rfl w.heap.size 33 i0 _ 3 24 Try.underlying23 hi0 hz0 hz1 hz2 rfl (by omega) _ _ 0 ts.length [] _ rfl rfl hown0 hsrc0 (by unfold maxLen; omega) (by omega) (by simp) ?_)
         intro r w7 hown7 hgr7 hat7))
    go_ret
    rw [Nat.zero_add, List.nil_append] at hown7
    refine ⟨r, rfl, ⟨hown7, by unfold small; omega⟩, ?_⟩
    exact Below.grown (w := w.alloc (.cells #[] 33)) (by (repeat (first | (with_reducible assumption) | (with_reducible exact Below.refl _ _) | ((with_reducible refine Below.alloc ?_ ?hsz _); (case hsz => (first | omega | (simp; done) | (simp; omega) | (simp at *; omega)))) | ((with_reducible refine Below.setCell ?_ ?hsz _); (case hsz => (first | omega | (simp; done) | (simp; omega) | (simp at *; omega)))) | (with_reducible refine Below.drew ?_) | (with_reducible refine below_drewN ?_ _) | ((with_reducible refine Below.trans ?_ (Below.mono (by with_reducible assumption) ?hsz)); (case hsz => (first | omega | (simp; done) | (simp; omega) | (simp at *; omega))))))) hgr7 (by (first | omega | (simp; done) | (simp; omega) | (simp at *; omega))) (fun q hq => by
      have hq' : w.heap.size = q := by injection hq
      omega)

set_option maxHeartbeats 1000000 in
set_option maxRecDepth 20000 in
theorem turnedKind_any (k : Int) (w : World) :
    Calls Try.prog 40 #[.int .i64 k] w fun e w' => e = .returned (.int .i64 (dualK k)) ∧ Below w.heap.size w w' := by
  by_cases h1 : k = 1
  · subst h1
    go_enter Try.func40, Try.ntmps40
    go_wp2
    go_ret
    exact ⟨rfl, by (repeat (first | (with_reducible assumption) | (with_reducible exact Below.refl _ _) | ((with_reducible refine Below.alloc ?_ ?hsz _); (case hsz => (first | omega | (simp; done) | (simp; omega) | (simp at *; omega)))) | ((with_reducible refine Below.setCell ?_ ?hsz _); (case hsz => (first | omega | (simp; done) | (simp; omega) | (simp at *; omega)))) | (with_reducible refine Below.drew ?_) | (with_reducible refine below_drewN ?_ _) | ((with_reducible refine Below.trans ?_ (Below.mono (by with_reducible assumption) ?hsz)); (case hsz => (first | omega | (simp; done) | (simp; omega) | (simp at *; omega))))))⟩
  · have b1 : (k == 1) = false := by simpa using h1
    by_cases h2 : k = 2
    · subst h2
      clear h1 b1
      go_enter Try.func40, Try.ntmps40
      go_wp2
      go_ret
      exact ⟨rfl, by (repeat (first | (with_reducible assumption) | (with_reducible exact Below.refl _ _) | ((with_reducible refine Below.alloc ?_ ?hsz _); (case hsz => (first | omega | (simp; done) | (simp; omega) | (simp at *; omega)))) | ((with_reducible refine Below.setCell ?_ ?hsz _); (case hsz => (first | omega | (simp; done) | (simp; omega) | (simp at *; omega)))) | (with_reducible refine Below.drew ?_) | (with_reducible refine below_drewN ?_ _) | ((with_reducible refine Below.trans ?_ (Below.mono (by with_reducible assumption) ?hsz)); (case hsz => (first | omega | (simp; done) | (simp; omega) | (simp at *; omega))))))⟩
    · have b2 : (k == 2) = false := by simpa using h2
      have HR := Lib.hid (show dualK k = k by simp [dualK, h1, h2])
      clear h1 h2
      go_enter Try.func40, Try.ntmps40
      go_wp2
      go_ret
      exact ⟨ret_int HR.out.symm, by (repeat (first | (with_reducible assumption) | (with_reducible exact Below.refl _ _) | ((with_reducible refine Below.alloc ?_ ?hsz _); (case hsz => (first | omega | (simp; done) | (simp; omega) | (simp at *; omega)))) | ((with_reducible refine Below.setCell ?_ ?hsz _); (case hsz => (first | omega | (simp; done) | (simp; omega) | (simp at *; omega)))) | (with_reducible refine Below.drew ?_) | (with_reducible refine below_drewN ?_ _) | ((with_reducible refine Below.trans ?_ (Below.mono (by with_reducible assumption) ?hsz)); (case hsz => (first | omega | (simp; done) | (simp; omega) | (simp at *; omega))))))⟩

theorem set1_list (qs : List Mk) (k : Nat) (hk : k < qs.length) (a : Int) : (qs.flatMap Mk.cells).set (k * 3) (.int .i64 a) = (qs.set k ⟨a, qs[k].h, qs[k].p⟩).flatMap Mk.cells := by
  induction qs generalizing k with
  | nil => simp at hk
  | cons q qs ih =>
    cases k with
    | zero => simp [List.flatMap_cons, Mk.cells]
    | succ k =>
      have h := ih k (by simpa using hk)
      have e : (k + 1) * 3 = k * 3 + 3 := by omega
      have e2 : (q :: qs)[k + 1] = qs[k]'(by simpa using hk) := rfl
      rw [e, e2, List.set_cons_succ, List.flatMap_cons, List.flatMap_cons, ← h]
      simp [Mk.cells]
def dvL (ts : List Mk) (k : Nat) : List Mk := (ts.take k).map dualM ++ ts.drop k
theorem dvL_len (ts : List Mk) (k : Nat) (h : k ≤ ts.length) : (dvL ts k).length = ts.length := by simp [dvL]; omega
theorem dvL_at {ts : List Mk} {k : Nat} (h : k < ts.length) : (dvL ts k)[k]'(by rw [dvL_len _ _ (by omega)]; exact h) = ts[k] := by
  simp only [dvL]
  rw [List.getElem_append_right (by simp; omega)]
  simp [Nat.min_eq_left (Nat.le_of_lt h)]
theorem dvL_next {ts : List Mk} {k : Nat} (h : k < ts.length) : (dvL ts k).set k (dualM ts[k]) = dvL ts (k + 1) := by
  simp only [dvL]
  have hl : ((ts.take k).map dualM).length = k := by simp; omega
  rw [List.set_append_right _ _ (by omega), hl, Nat.sub_self, List.drop_eq_getElem_cons h, List.set_cons_zero, List.take_succ_eq_append_getElem h]
  simp only [List.map_append, List.map_cons, List.map_nil, List.append_assoc, List.cons_append, List.nil_append]

set_option maxHeartbeats 4000000 in
set_option maxRecDepth 20000 in
theorem dualTerm_any (v : Value) (ts : List Mk) (b : Nat) (w : World) (hm : Marks w b v ts) :
    Calls Try.prog 11 #[v] w fun e w' => ∃ r, e = .returned (.tuple #[r, .bool (dualB ts)]) ∧ Marks w' w.heap.size r (dualL ts) ∧ Below w.heap.size w w' := by
  obtain ⟨A, c, rfl, hc1, hc2, -, hcell⟩ := hm.form
  unfold maxLen at hc2
  cases ht : termB ts
  · have hd : dualB ts = false := by simp [dualB, ht]
    have HD := Lib.hid (And.intro hd (dualL_no hd))
    clear hd
    go_enter Try.func11, Try.ntmps11
    go_wp2_with fail
    refine (termOk_any _ ts b _ (hm.keep (by (repeat (first | (with_reducible assumption) | (with_reducible exact Below.refl _ _) | ((with_reducible refine Below.alloc ?_ ?hsz _); (case hsz => (first | omega | (simp; done) | (simp; omega) | (simp at *; omega)))) | ((with_reducible refine Below.setCell ?_ ?hsz _); (case hsz => (first | omega | (simp; done) | (simp; omega) | (simp at *; omega)))) | (with_reducible refine Below.drew ?_) | (with_reducible refine below_drewN ?_ _) | ((with_reducible refine Below.trans ?_ (Below.mono (by with_reducible assumption) ?hsz)); (case hsz => (first | omega | (simp; done) | (simp; omega) | (simp at *; omega))))))))).mono ?_
    rintro e w1 ⟨rfl, hb1⟩
    rw [ht]
    go_wp2_with fail
    refine bodyPost_ret (v := .tuple #[.slice none 0 0, .bool false]) (by simp [results, Try.results11, go_sem]) rfl ⟨_, by rw [HD.out.1], by rw [HD.out.2]; exact Marks_nil _ _, by (repeat (first | (with_reducible assumption) | (with_reducible exact Below.refl _ _) | ((with_reducible refine Below.alloc ?_ ?hsz _); (case hsz => (first | omega | (simp; done) | (simp; omega) | (simp at *; omega)))) | ((with_reducible refine Below.setCell ?_ ?hsz _); (case hsz => (first | omega | (simp; done) | (simp; omega) | (simp at *; omega)))) | (with_reducible refine Below.drew ?_) | (with_reducible refine below_drewN ?_ _) | ((with_reducible refine Below.trans ?_ (Below.mono (by with_reducible assumption) ?hsz)); (case hsz => (first | omega | (simp; done) | (simp; omega) | (simp at *; omega))))))⟩
  · have hl13 := term_len ht
    have hdv : dvL ts ts.length = ts.map dualM := by simp [dvL]
    have hlm : (ts.map dualM).length = ts.length := by simp
    obtain ⟨l, hl⟩ : ∃ l, ts.length = l := ⟨_, rfl⟩
    have HL := Lib.hid hl
    have hd : dualB ts = termB (ts.map dualM) := by simp [dualB, ht]
    rw [hl] at hc1 hl13 hdv hlm
    have HDV := Lib.hid (And.intro hdv (And.intro hlm hd))
    obtain ⟨bd, hbd⟩ : ∃ x, dualB ts = x := ⟨_, rfl⟩
    have HBD := Lib.hid hbd
    have hs6 : ts.length ≤ 1048576 := by omega
    rw [hl] at hm ⊢
    clear hl hdv hlm hd
    go_enter Try.func11, Try.ntmps11
    go_wp2_with fail
    refine (termOk_any _ ts b _ (hm.keep (by (repeat (first | (with_reducible assumption) | (with_reducible exact Below.refl _ _) | ((with_reducible refine Below.alloc ?_ ?hsz _); (case hsz => (first | omega | (simp; done) | (simp; omega) | (simp at *; omega)))) | ((with_reducible refine Below.setCell ?_ ?hsz _); (case hsz => (first | omega | (simp; done) | (simp; omega) | (simp at *; omega)))) | (with_reducible refine Below.drew ?_) | (with_reducible refine below_drewN ?_ _) | ((with_reducible refine Below.trans ?_ (Below.mono (by with_reducible assumption) ?hsz)); (case hsz => (first | omega | (simp; done) | (simp; omega) | (simp at *; omega))))))))).mono ?_
    rintro e w1 ⟨rfl, hb1⟩
    rw [ht]
    have hB1 : Below w.heap.size w w1 := by (repeat (first | (with_reducible assumption) | (with_reducible exact Below.refl _ _) | ((with_reducible refine Below.alloc ?_ ?hsz _); (case hsz => (first | omega | (simp; done) | (simp; omega) | (simp at *; omega)))) | ((with_reducible refine Below.setCell ?_ ?hsz _); (case hsz => (first | omega | (simp; done) | (simp; omega) | (simp at *; omega)))) | (with_reducible refine Below.drew ?_) | (with_reducible refine below_drewN ?_ _) | ((with_reducible refine Below.trans ?_ (Below.mono (by with_reducible assumption) ?hsz)); (case hsz => (first | omega | (simp; done) | (simp; omega) | (simp at *; omega))))))
    go_wp2_with fail
    refine (cloneMarks_any _ ts b _ (hm.keep hB1) hs6).mono ?_
    rintro e w2 ⟨r, rfl, hr, hb2⟩
    have hB2 : Below w.heap.size w w2 := hB1.trans (hb2.mono hB1.size)
    have hown2 : w2.ownsRow w.heap.size 33 3 r l ((dvL ts 0).flatMap Mk.cells) := by
      have := own_mono hr.1 hB1.size
      rw [HL.out] at this
      simpa [dvL] using this
    clear hb1 hb2 hr hB1 hs6
    go_wp2_with fail
    go_loopw [14] (fun i wr => ∃ k : Nat, k ≤ l ∧ i = .int .i64 k ∧ wr.ownsRow w.heap.size 33 3 r l ((dvL ts k).flatMap Mk.cells) ∧ Below w.heap.size w wr) (fun i _ => l - (intOf i).toNat)
    case atStart => exact ⟨0, by omega, rfl, hown2, hB2⟩
    case round =>
      clear hown2 hB2
      obtain ⟨k, hk, rfl, hown, hb⟩ := hrel
      have hzb := hb.size
      by_cases hlt : k < l
      · have hltp : k < ts.length := by have := HL.out; omega
        obtain ⟨g, rfl, hg1, hg2, c0, c1, c2⟩ := hcell wr hb k hltp
        have hgr : g < wr.heap.size := by omega
        obtain ⟨qs, hQ⟩ : ∃ qs, qs = dvL ts k := ⟨_, rfl⟩
        have hml : qs.length = ts.length := by rw [hQ]; exact dvL_len ts k (by omega)
        have hq1 : k < qs.length := by omega
        have HQ := Lib.hid (And.intro (show qs[k] = ts[k] by subst hQ; exact dvL_at hltp) (show qs.set k (dualM ts[k]) = dvL ts (k + 1) by rw [hQ]; exact dvL_next hltp))
        rw [← hQ] at hown
        clear hQ hml
        obtain ⟨A1, c1', rfl, -, -, -⟩ := own_form hown
        obtain ⟨gr, rfl, hgr1, hgr2, hcn, hcm, -⟩ := own_at hown (by have := hown.1; omega)
        unfold maxLen at hcm
        obtain ⟨W1, hW1⟩ : ∃ W, W = wr.alloc (.cells #[.int .i64 ts[k].k, .int .i64 ts[k].h, .int .i64 ts[k].p] 33) := ⟨_, rfl⟩
        have hB1 : Below wr.heap.size wr W1 := by rw [hW1]; (repeat (first | (with_reducible assumption) | (with_reducible exact Below.refl _ _) | ((with_reducible refine Below.alloc ?_ ?hsz _); (case hsz => (first | omega | (simp; done) | (simp; omega) | (simp at *; omega)))) | ((with_reducible refine Below.setCell ?_ ?hsz _); (case hsz => (first | omega | (simp; done) | (simp; omega) | (simp at *; omega)))) | (with_reducible refine Below.drew ?_) | (with_reducible refine below_drewN ?_ _) | ((with_reducible refine Below.trans ?_ (Below.mono (by with_reducible assumption) ?hsz)); (case hsz => (first | omega | (simp; done) | (simp; omega) | (simp at *; omega))))))
        have d0 : W1.cell? ⟨wr.heap.size, 0, none⟩ = some (.int .i64 ts[k].k) := by rw [hW1]; go_simp
        have hz1 : W1.heap.size = wr.heap.size + 1 := by rw [hW1]; simp
        go_wp2_with fail
        rw [← hW1]
        refine (turnedKind_any ts[k].k _).mono ?_
        rintro e w2' ⟨rfl, hb2⟩
        have hz2 := hb2.size
        have hB2 := hB1.trans (hb2.mono (by omega))
        have hown2 := own_keep hown (Nat.le_refl _) hB2
        obtain ⟨-, ⟨o0, -, -⟩, hof⟩ := own_cells3 (k := k) hown2 hq1
        have hfr0 := hof (k * 3)
        have hst := (hown2.stored (k * 3) (.int .i64 (dualK ts[k].k))).1
        rw [set1_list qs k hq1] at hst
        have hq : (⟨dualK ts[k].k, qs[k].h, qs[k].p⟩ : Mk) = dualM ts[k] := by
          have := HQ.out.1
          rw [this]
          rfl
        rw [hq, HQ.out.2] at hst
        have HS := Lib.hid hst
        have hbB2 : Below w.heap.size w w2' := hb.trans (hB2.mono hzb)
        clear hst hof hown hB1 hb2 d0 hW1 hB2 hown2 hb hq
        go_wp2_with fail
        go_roundw
        case rel => exact ⟨k + 1, by omega, by go_num, HS.out, hbB2.setCell (p := ⟨gr, k * 3, none⟩) hgr1 _⟩
        case measure => simp [intOf]; omega
      · have hk2 : k = l := by omega
        subst hk2
        rw [HDV.out.1] at hown
        obtain ⟨A1, c1', rfl, -, -, -⟩ := own_form hown
        have hP : Marks wr w.heap.size (.slice A1 k c1') (ts.map dualM) := ⟨by rw [HDV.out.2.1]; exact hown, by rw [HDV.out.2.1]; unfold small; omega⟩
        clear hown
        go_wp2_with fail
        refine (termOk_any _ (ts.map dualM) _ _ hP).mono ?_
        rintro e w5 ⟨rfl, hb5⟩
        rw [← HDV.out.2.2, HBD.out]
        have hB5 : Below w.heap.size w w5 := hb.trans (hb5.mono hzb)
        have hP5 := hP.keep hb5
        clear hb5 hP hb hlt
        cases bd with
        | false =>
          have HD := Lib.hid (dualL_no HBD.out)
          go_wp2_with fail
          refine bodyPost_ret (v := .tuple #[.slice none 0 0, .bool false]) (by simp [results, Try.results11, go_sem]) rfl ⟨_, by rw [HBD.out], by rw [HD.out]; exact Marks_nil _ _, hB5⟩
        | true =>
          have HD := Lib.hid (dualL_yes HBD.out)
          go_wp2_with fail
          refine bodyPost_ret (v := .tuple #[.slice A1 k c1', .bool true]) (by simp [results, Try.results11, go_sem]) rfl ⟨_, by rw [HBD.out], by rw [HD.out]; exact hP5, hB5⟩

end Go.Proofs.Ytaohjhehlkeckaa
