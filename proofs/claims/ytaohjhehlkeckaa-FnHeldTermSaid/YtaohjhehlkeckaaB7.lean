/- Contracts of the functions of chapter 9 in the model: HeldTerm. -/
import Derived.Test.YtaohjhehlkeckaaB2
import Derived.Test.YtaohjhehlkeckaaAS
namespace Go.Proofs.Ytaohjhehlkeckaa
open Go.RowKit

def hvL (hold : Int) (ts : List Mk) (a : Int) (k : Nat) : List Mk := (hldF hold ts a).take k ++ ts.drop k
theorem hvL_len (hold : Int) (ts : List Mk) (a : Int) (k : Nat) (h : k ≤ ts.length) : (hvL hold ts a k).length = ts.length := by simp [hvL, held_len]; omega
theorem hvL_at {hold : Int} {ts : List Mk} {a : Int} {k : Nat} (h : k < ts.length) : (hvL hold ts a k)[k]'(by rw [hvL_len _ _ _ _ (by omega)]; exact h) = ts[k] := by
  simp only [hvL]
  rw [List.getElem_append_right (by simp; omega)]
  simp [held_len, Nat.min_eq_left (Nat.le_of_lt h)]
theorem hvL_next {hold : Int} {ts : List Mk} {a : Int} {k : Nat} (h : k < ts.length) : (hvL hold ts a k).set k ((hldF hold ts a)[k]'(by rw [held_len]; exact h)) = hvL hold ts a (k + 1) := by
  simp only [hvL]
  have hl : ((hldF hold ts a).take k).length = k := by simp [held_len]; omega
  rw [List.set_append_right _ _ (by omega), hl, Nat.sub_self, List.drop_eq_getElem_cons h, List.set_cons_zero, List.take_succ_eq_append_getElem (by rw [held_len]; exact h)]
  simp only [List.append_assoc, List.cons_append, List.nil_append]
theorem hvL_same {hold : Int} {ts : List Mk} {a : Int} {k : Nat} (h : k < ts.length) (e : (hldF hold ts a)[k]'(by rw [held_len]; exact h) = ts[k]) : hvL hold ts a (k + 1) = hvL hold ts a k := by
  rw [← hvL_next h, e]
  have h2 := hvL_at (hold := hold) (a := a) h
  apply List.ext_getElem (by simp)
  intro i h3 h4
  rw [List.getElem_set]
  split
  · rename_i hik
    subst hik
    exact h2.symm
  · rfl

set_option maxHeartbeats 8000000 in
set_option maxRecDepth 20000 in
theorem specHeld_any (a hold : Int) (v : Value) (ts : List Mk) (b : Nat) (w : World) (hm : Marks w b v ts) :
    Calls Try.prog 28 #[v, .int .i64 a, .int .i64 hold] w fun e w' => ∃ r, e = .returned (.tuple #[r, .bool (hldB ts a hold)]) ∧ Marks w' w.heap.size r (hldR ts a hold) ∧ Below w.heap.size w w' := by
  obtain ⟨A, c, rfl, hc1, hc2, hs4, hcell⟩ := hm.form
  unfold maxLen at hc2
  obtain ⟨i0, hi0, hz0, hz1, hz2⟩ := info_parts mark_info
  have hcl := countK_le 0 ts
  obtain ⟨np, hnp⟩ : ∃ np, countK 0 ts = np := ⟨_, rfl⟩
  rw [hnp] at hcl
  have HNP := Lib.hid hnp
  obtain ⟨l, hl⟩ : ∃ l, ts.length = l := ⟨_, rfl⟩
  have HL := Lib.hid hl
  rw [hl] at hm hc1 hs4 hcl ⊢
  have hBN := Lib.hid (show ∀ x y z : Bool, termB ts = x → withinB a 0 ((np : Int) - 1) = y → withinB hold 0 4 = z → hldB ts a hold = (x && (y && z)) from fun x y z h1 h2 h3 => by
    rw [hldB, HNP.out, h1, h2, h3])
  have hfalse : ∀ W : World, Below w.heap.size w W → Marks (W.alloc (.cells #[] 33)) w.heap.size (.slice (some ⟨W.heap.size, 0, none⟩) 0 0) [] := fun W hW => ⟨lit_own0 hW.size (heap_alloc_new _ _), by simp [small]⟩
  clear hl hnp
  go_enter Try.func28, Try.ntmps28
  go_wp2_with fail
  refine (specTermOk_any _ ts b _ hm).mono ?_
  rintro e w1 ⟨rfl, hb1⟩
  have hz1' := hb1.size
  cases ht : termB ts
  · have HD := Lib.hid (show hldB ts a hold = false by rw [hBN.out _ _ _ ht rfl rfl]; rfl)
    have HR := Lib.hid (show hldR ts a hold = [] by rw [hldR, if_neg (by simp [HD.out])])
    have hfin := hfalse w1 hb1
    clear ht
    go_wp2_with fail
    refine bodyPost_ret (v := .tuple #[.slice (some ⟨w1.heap.size, 0, none⟩) 0 0, .bool false]) (by simp [results, Try.results28, go_sem]) rfl ⟨_, by rw [HD.out], by rw [HR.out]; exact hfin, by (repeat (first | (with_reducible assumption) | (with_reducible exact Below.refl _ _) | ((with_reducible refine Below.alloc ?_ ?hsz _); (case hsz => (first | omega | (simp; done) | (simp; omega) | (simp at *; omega)))) | ((with_reducible refine Below.setCell ?_ ?hsz _); (case hsz => (first | omega | (simp; done) | (simp; omega) | (simp at *; omega)))) | (with_reducible refine Below.drew ?_) | (with_reducible refine below_drewN ?_ _) | ((with_reducible refine Below.trans ?_ (Below.mono (by with_reducible assumption) ?hsz)); (case hsz => (first | omega | (simp; done) | (simp; omega) | (simp at *; omega))))))⟩
  · have hl13 := term_len ht
    have HT := Lib.hid ht
    have hnp13 : np ≤ 13 := by have := HL.out; omega
    have HPN := Lib.hid (show pipesN ts = (np : Int) by rw [pipesN_yes ht, HNP.out])
    clear ht hl13
    cases hw2 : withinB hold 0 4
    · have HD := Lib.hid (show hldB ts a hold = false by rw [hBN.out _ _ _ HT.out rfl hw2]; cases withinB a 0 ((np : Int) - 1) <;> rfl)
      have HR := Lib.hid (show hldR ts a hold = [] by rw [hldR, if_neg (by simp [HD.out])])
      have hfin := hfalse w1 hb1
      go_wp2_with (first
        | (go_at_call 59; ((with_reducible refine (l1In_any _ _ _ _).mono ?_); rintro e w1 ⟨rfl, rfl⟩)))
      refine bodyPost_ret (v := .tuple #[.slice (some ⟨w1.heap.size, 0, none⟩) 0 0, .bool false]) (by simp [results, Try.results28, go_sem]) rfl ⟨_, by rw [HD.out], by rw [HR.out]; exact hfin, by (repeat (first | (with_reducible assumption) | (with_reducible exact Below.refl _ _) | ((with_reducible refine Below.alloc ?_ ?hsz _); (case hsz => (first | omega | (simp; done) | (simp; omega) | (simp at *; omega)))) | ((with_reducible refine Below.setCell ?_ ?hsz _); (case hsz => (first | omega | (simp; done) | (simp; omega) | (simp at *; omega)))) | (with_reducible refine Below.drew ?_) | (with_reducible refine below_drewN ?_ _) | ((with_reducible refine Below.trans ?_ (Below.mono (by with_reducible assumption) ?hsz)); (case hsz => (first | omega | (simp; done) | (simp; omega) | (simp at *; omega))))))⟩
    · have HW2 := Lib.hid hw2
      go_wp2_with (first
        | (go_at_call 59; ((with_reducible refine (l1In_any _ _ _ _).mono ?_); rintro e w1 ⟨rfl, rfl⟩)))
      clear hw2
      refine (specPipesIn_any _ ts b _ (hm.keep hb1)).mono ?_
      rintro e w2 ⟨rfl, hb2⟩
      rw [HPN.out]
      have hB2 : Below w.heap.size w w2 := hb1.trans (hb2.mono hz1')
      have hzw2 := hB2.size
      clear hb2
      cases hw1 : withinB a 0 ((np : Int) - 1)
      · have HD := Lib.hid (show hldB ts a hold = false by rw [hBN.out _ _ _ HT.out hw1 rfl]; rfl)
        have HR := Lib.hid (show hldR ts a hold = [] by rw [hldR, if_neg (by simp [HD.out])])
        have hfin := hfalse w2 hB2
        go_wp2_with (first
          | (go_at_call 59; ((with_reducible refine (l1In_any _ _ _ _).mono ?_); rintro e w1 ⟨rfl, rfl⟩)))
        refine bodyPost_ret (v := .tuple #[.slice (some ⟨w2.heap.size, 0, none⟩) 0 0, .bool false]) (by simp [results, Try.results28, go_sem]) rfl ⟨_, by rw [HD.out], by rw [HR.out]; exact hfin, by (repeat (first | (with_reducible assumption) | (with_reducible exact Below.refl _ _) | ((with_reducible refine Below.alloc ?_ ?hsz _); (case hsz => (first | omega | (simp; done) | (simp; omega) | (simp at *; omega)))) | ((with_reducible refine Below.setCell ?_ ?hsz _); (case hsz => (first | omega | (simp; done) | (simp; omega) | (simp at *; omega)))) | (with_reducible refine Below.drew ?_) | (with_reducible refine below_drewN ?_ _) | ((with_reducible refine Below.trans ?_ (Below.mono (by with_reducible assumption) ?hsz)); (case hsz => (first | omega | (simp; done) | (simp; omega) | (simp at *; omega))))))⟩
      · have HD := Lib.hid (show hldB ts a hold = true by rw [hBN.out _ _ _ HT.out hw1 HW2.out]; rfl)
        have hin : 0 ≤ a ∧ a ≤ (np : Int) - 1 := by simpa [withinB] using hw1
        have HR := Lib.hid (show hldR ts a hold = hldF hold ts a by rw [hldR, if_pos HD.out])
        obtain ⟨ha0, ha1⟩ := hin
        have hown0 : (w2.alloc (.cells #[] 33)).ownsRow w.heap.size 33 3 (.slice (some ⟨w2.heap.size, 0, none⟩) 0 0) 0 [] := lit_own0 hzw2 (heap_alloc_new _ _)
        have hsrc := (hm.keep (w' := w2.alloc (.cells #[] 33)) (by (repeat (first | (with_reducible assumption) | (with_reducible exact Below.refl _ _) | ((with_reducible refine Below.alloc ?_ ?hsz _); (case hsz => (first | omega | (simp; done) | (simp; omega) | (simp at *; omega)))) | ((with_reducible refine Below.setCell ?_ ?hsz _); (case hsz => (first | omega | (simp; done) | (simp; omega) | (simp at *; omega)))) | (with_reducible refine Below.drew ?_) | (with_reducible refine below_drewN ?_ _) | ((with_reducible refine Below.trans ?_ (Below.mono (by with_reducible assumption) ?hsz)); (case hsz => (first | omega | (simp; done) | (simp; omega) | (simp at *; omega)))))))).src
        rw [HL.out] at hsrc
        go_wp2_with (first
          | (go_at_call 59; ((with_reducible refine (l1In_any _ _ _ _).mono ?_); rintro e w1 ⟨rfl, rfl⟩))
          | (at_builtin
             go_must (refine wpList_append_src rfl _ _ 23 rfl w.heap.size 33 i0 _ 3 24 Try.underlying23 hi0 hz0 hz1 hz2 rfl (by omega) _ _ 0 l [] _ rfl rfl hown0 hsrc (by unfold maxLen; omega) (by omega) (by (first | omega | (simp; done) | (simp; omega) | (simp at *; omega))) ?_)
             intro r7 w7 hown7 hgr7 hat7))
        rw [Nat.zero_add, List.nil_append] at hown7
        have hb7 : Below w.heap.size w w7 := Below.grown (w := w2.alloc (.cells #[] 33)) (by (repeat (first | (with_reducible assumption) | (with_reducible exact Below.refl _ _) | ((with_reducible refine Below.alloc ?_ ?hsz _); (case hsz => (first | omega | (simp; done) | (simp; omega) | (simp at *; omega)))) | ((with_reducible refine Below.setCell ?_ ?hsz _); (case hsz => (first | omega | (simp; done) | (simp; omega) | (simp at *; omega)))) | (with_reducible refine Below.drew ?_) | (with_reducible refine below_drewN ?_ _) | ((with_reducible refine Below.trans ?_ (Below.mono (by with_reducible assumption) ?hsz)); (case hsz => (first | omega | (simp; done) | (simp; omega) | (simp at *; omega))))))) hgr7 (by (first | omega | (simp; done) | (simp; omega) | (simp at *; omega))) (fun q hq => (hown0.lt q hq).1)
        have hown8 : w7.ownsRow w.heap.size 33 3 r7 l ((hvL hold ts a 0).flatMap Mk.cells) := by simpa [hvL] using hown7
        have HCS := Lib.hid (fun k hk => countK_snoc 0 ts k hk)
        have HCL := Lib.hid (fun k => countK_le 0 (ts.take k))
        obtain ⟨A7, c7, rfl, -, -, -⟩ := own_form hown7
        clear hown7 hgr7 hat7 hown0 hsrc hw1
        go_wp2_with fail
        go_loopw [10, 9] (fun i q wr => ∃ k : Nat, k ≤ l ∧ i = .int .i64 k ∧ q = .int .i64 (countK 0 (ts.take k)) ∧ wr.ownsRow w.heap.size 33 3 (.slice A7 l c7) l ((hvL hold ts a k).flatMap Mk.cells) ∧ Below w.heap.size w wr) (fun i _ _ => l - (intOf i).toNat)
        case atStart => exact ⟨0, by omega, rfl, rfl, hown8, hb7⟩
        case round =>
          clear hown8 hb7
          obtain ⟨k, hk, rfl, rfl, hown, hb⟩ := hrel
          have hzb := hb.size
          have hcl' := HCL.out k
          have hlk : (ts.take k).length ≤ k := by simp; omega
          by_cases hlt : k < l
          · have hltp : k < ts.length := by have := HL.out; omega
            obtain ⟨g, rfl, hg1, hg2, d0, d1, d2⟩ := hcell wr hb k hltp
            have hgr : g < wr.heap.size := by omega
            have hcs := HCS.out k hltp
            have hat := held_at hold ts a k hltp
            by_cases h0 : ts[k].k = 0
            · rw [if_pos h0] at hcs
              by_cases hna : (countK 0 (ts.take k) : Int) = a
              · rw [if_pos ⟨h0, hna⟩] at hat
                have hnx := hvL_next (hold := hold) (a := a) hltp
                rw [hat] at hnx
                have hq1 : k < (hvL hold ts a k).length := by rw [hvL_len _ _ _ _ (by omega)]; exact hltp
                obtain ⟨g7, rfl, hg71, hg72, hk7, hk8, -⟩ := own_at hown (by have := hown.1; omega)
                unfold maxLen at hk8
                obtain ⟨-, ⟨o0, o1, o2⟩, hof⟩ := own_cells3 (k := k) hown hq1
                have hf0 := hof (k * 3)
                have hf1 := hof (k * 3 + 1)
                have hf2 := hof (k * 3 + 2)
                have hst := own_set3 (k := k) hown hq1 ⟨0, hold, ts[k].p⟩
                rw [hnx] at hst
                dsimp only at hst
                have HST := Lib.hid (And.intro hst hcs)
                rw [h0] at d0
                rw [hna]
                clear hst hnx hof hat hcs h0
                have HNA := Lib.hid hna
                clear hna hcl'
                go_wp2_with fail
                go_roundw
                case rel => exact ⟨k + 1, by omega, by go_num, by rw [HST.out.2]; have := HNA.out; go_num, HST.out.1, ((hb.setCell (p := ⟨g7, k * 3, none⟩) hg71 _).setCell (p := ⟨g7, k * 3 + 1, none⟩) hg71 _).setCell (p := ⟨g7, k * 3 + 2, none⟩) hg71 _⟩
                case measure => simp [intOf]; omega
              · rw [if_neg (fun h => hna h.2)] at hat
                have hsm := hvL_same hltp hat
                rw [← hsm] at hown
                have hne : ((countK 0 (ts.take k) : Int) == a) = false := by simpa using hna
                have HO := Lib.hid (And.intro hown hcs)
                rw [h0] at d0
                generalize countK 0 (ts.take k) = n0 at *
                clear hown hsm hat hcs h0 hna
                go_wp2_with fail
                go_roundw
                case rel => exact ⟨k + 1, by omega, by go_num, by rw [HO.out.2]; go_num, HO.out.1, hb⟩
                case measure => simp [intOf]; omega
            · rw [if_neg h0] at hcs
              rw [if_neg (fun h => h0 h.1)] at hat
              have hsm := hvL_same hltp hat
              rw [← hsm] at hown
              have b0 : (ts[k].k == 0) = false := by simpa using h0
              have HO := Lib.hid (And.intro hown hcs)
              generalize countK 0 (ts.take k) = n0 at *
              clear hown hsm hat hcs h0
              go_wp2_with fail
              go_roundw
              case rel => exact ⟨k + 1, by omega, by go_num, by rw [HO.out.2]; go_num, HO.out.1, hb⟩
              case measure => simp [intOf]; omega
          · have hk2 : k = l := by omega
            subst hk2
            have e1 : hvL hold ts a k = hldF hold ts a := by
              have := HL.out
              simp only [hvL]
              rw [List.take_of_length_le (by rw [held_len]; omega), List.drop_eq_nil_of_le (by omega), List.append_nil]
            rw [e1] at hown
            have hP : Marks wr w.heap.size (.slice A7 k c7) (hldF hold ts a) := ⟨by rw [held_len, HL.out]; exact hown, by rw [held_len, HL.out]; unfold small; omega⟩
            clear hown e1
            go_wp2_with fail
            refine bodyPost_ret (v := .tuple #[.slice A7 k c7, .bool true]) (by simp [results, Try.results28, go_sem]) rfl ⟨_, by rw [HD.out], by rw [HR.out]; exact hP, hb⟩

end Go.Proofs.Ytaohjhehlkeckaa
