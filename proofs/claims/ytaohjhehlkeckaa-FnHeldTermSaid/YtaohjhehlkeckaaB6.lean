/- Contracts of the functions of chapter 9 in the program: pipeMarks, HeldTerm. -/
import Derived.Test.YtaohjhehlkeckaaB2
namespace Go.Proofs.Ytaohjhehlkeckaa
open Go.RowKit

/- the places of the pipes among the first marks -/
def plcL (ts : List Mk) (k : Nat) : List Int := numW k fun j => decide ((ts.getD j ⟨0, 0, 0⟩).k = 0)
theorem plc_len (ts : List Mk) (k : Nat) (hk : k ≤ ts.length) : (plcL ts k).length = countK 0 (ts.take k) := by
  induction k with
  | zero => simp [plcL, numW, countK]
  | succ k ih =>
    have h1 := countK_snoc 0 ts k (by omega)
    have e : (ts.getD k ⟨0, 0, 0⟩) = ts[k]'(by omega) := by simp [List.getD_eq_getElem?_getD, List.getElem?_eq_getElem (by omega : k < ts.length)]
    have h2 : (plcL ts (k + 1)).length = (plcL ts k).length + if ts[k].k = 0 then 1 else 0 := by
      simp only [plcL, numW, List.range_succ, List.filter_append, List.map_append, List.length_append, List.filter_cons, List.filter_nil, e]
      by_cases h : ts[k].k = 0 <;> simp [h]
    rw [h2, ih (by omega), h1]
theorem plc_yes {ts : List Mk} {k : Nat} (hk : k < ts.length) (h : ts[k].k = 0) : plcL ts (k + 1) = plcL ts k ++ [(k : Int)] := by
  have e : (ts.getD k ⟨0, 0, 0⟩) = ts[k]'(by omega) := by simp [List.getD_eq_getElem?_getD, List.getElem?_eq_getElem (by omega : k < ts.length)]
  simp only [plcL, numW, List.range_succ, List.filter_append, List.map_append, List.filter_cons, List.filter_nil, e]
  simp [h]
theorem plc_no {ts : List Mk} {k : Nat} (hk : k < ts.length) (h : ts[k].k ≠ 0) : plcL ts (k + 1) = plcL ts k := by
  have e : (ts.getD k ⟨0, 0, 0⟩) = ts[k]'(by omega) := by simp [List.getD_eq_getElem?_getD, List.getElem?_eq_getElem (by omega : k < ts.length)]
  simp only [plcL, numW, List.range_succ, List.filter_append, List.map_append, List.filter_cons, List.filter_nil, e]
  simp [h]
/- the a-th place -/
theorem plc_at (ts : List Mk) : ∀ (k : Nat), k ≤ ts.length → ∀ (a : Nat), a < (plcL ts k).length → ∃ j : Nat, ∃ hj : j < ts.length, (plcL ts k).getD a 0 = (j : Int) ∧ ts[j].k = 0 ∧ countK 0 (ts.take j) = a := by
  intro k
  induction k with
  | zero => intro _ a h; simp [plcL, numW] at h
  | succ k ih =>
    intro hk a ha
    by_cases h0 : ts[k].k = 0
    · rw [plc_yes (by omega) h0] at ha ⊢
      by_cases hlt : a < (plcL ts k).length
      · obtain ⟨j, hj, h1, h2, h3⟩ := ih (by omega) a hlt
        refine ⟨j, hj, ?_, h2, h3⟩
        rw [← h1]
        simp [List.getD_eq_getElem?_getD, List.getElem?_append_left hlt]
      · have e : a = (plcL ts k).length := by simp at ha; omega
        refine ⟨k, by omega, ?_, h0, by rw [e, plc_len ts k (by omega)]⟩
        rw [e]
        simp [List.getD_eq_getElem?_getD]
    · rw [plc_no (by omega) h0] at ha ⊢
      exact ih (by omega) a ha

set_option maxHeartbeats 4000000 in
set_option maxRecDepth 20000 in
theorem pipeMarks_any (v : Value) (ts : List Mk) (b : Nat) (w : World) (hm : Marks w b v ts) (hs : ts.length ≤ 1048576) :
    Calls Try.prog 55 #[v] w fun e w' => ∃ r, e = .returned r ∧ Ints w' w.heap.size r (plcL ts ts.length) ∧ Below w.heap.size w w' := by
  obtain ⟨A, c, rfl, hc1, hc2, -, hcell⟩ := hm.form
  unfold maxLen at hc2
  obtain ⟨i0, hi0, hz0, hz1, hz2⟩ := info_parts int_info
  have hle := fun k hk => plc_len ts k hk
  have hcl := fun k => countK_le 0 (ts.take k)
  obtain ⟨l, hl⟩ : ∃ l, ts.length = l := ⟨_, rfl⟩
  have HL := Lib.hid hl
  have HLE := Lib.hid (And.intro hle hcl)
  rw [hl] at hm hc1 hs ⊢
  clear hl hle hcl
  go_enter Try.func55, Try.ntmps55
  go_wp2_with fail
  go_loopw [8, 3] (fun i t wr => ∃ (k j c1 : Nat) (A1 : Option Addr), k ≤ l ∧ j ≤ k ∧ i = .int .i64 k ∧ t = .slice A1 j c1 ∧ (plcL ts k).length = j ∧
      wr.ownsRow w.heap.size 3 1 (.slice A1 j c1) j ((plcL ts k).map (Value.int .i64)) ∧ Below w.heap.size w wr) (fun i _ _ => l - (intOf i).toNat)
  case atStart => exact ⟨0, 0, 0, none, by omega, by omega, rfl, rfl, rfl, World.ownsRow_nil _ _ _ 1, by (repeat (first | (with_reducible assumption) | (with_reducible exact Below.refl _ _) | ((with_reducible refine Below.alloc ?_ ?hsz _); (case hsz => (first | omega | (simp; done) | (simp; omega) | (simp at *; omega)))) | ((with_reducible refine Below.setCell ?_ ?hsz _); (case hsz => (first | omega | (simp; done) | (simp; omega) | (simp at *; omega)))) | (with_reducible refine Below.drew ?_) | (with_reducible refine below_drewN ?_ _) | ((with_reducible refine Below.trans ?_ (Below.mono (by with_reducible assumption) ?hsz)); (case hsz => (first | omega | (simp; done) | (simp; omega) | (simp at *; omega))))))⟩
  case round =>
    obtain ⟨k, j, c1, A1, hk, hjk, rfl, rfl, hj, hown, hb⟩ := hrel
    have hzb := hb.size
    have HJ := Lib.hid hj
    clear hj
    by_cases hlt : k < l
    · have hltp : k < ts.length := by have := HL.out; omega
      obtain ⟨g, rfl, hg1, hg2, d0, d1, d2⟩ := hcell wr hb k hltp
      have hgr : g < wr.heap.size := by omega
      have hrow := fun q hq => (hown.lt q hq).1
      by_cases h0 : ts[k].k = 0
      · have HS := Lib.hid (plc_yes hltp h0)
        rw [h0] at d0
        clear h0
        have hbb : Below w.heap.size w (wr.alloc (.cells #[.int .i64 0, .int .i64 ts[k].h, .int .i64 ts[k].p] 33)) := by (repeat (first | (with_reducible assumption) | (with_reducible exact Below.refl _ _) | ((with_reducible refine Below.alloc ?_ ?hsz _); (case hsz => (first | omega | (simp; done) | (simp; omega) | (simp at *; omega)))) | ((with_reducible refine Below.setCell ?_ ?hsz _); (case hsz => (first | omega | (simp; done) | (simp; omega) | (simp at *; omega)))) | (with_reducible refine Below.drew ?_) | (with_reducible refine below_drewN ?_ _) | ((with_reducible refine Below.trans ?_ (Below.mono (by with_reducible assumption) ?hsz)); (case hsz => (first | omega | (simp; done) | (simp; omega) | (simp at *; omega))))))
        have hwz : (wr.alloc (.cells #[.int .i64 0, .int .i64 ts[k].h, .int .i64 ts[k].p] 33)).heap.size = wr.heap.size + 1 := by simp
        have hlit := heap_alloc_new (wr.alloc (.cells #[.int .i64 0, .int .i64 ts[k].h, .int .i64 ts[k].p] 33)) (.cells #[.int .i64 (k : Int)] 3)
        rw [hwz] at hlit
        go_wp2_with (first
          | (at_builtin
             go_must (refine wpList_append_src rfl _ _ 34 rfl w.heap.size 3 i0 _ 1 8 Try.underlying34 hi0 hz0 hz1 hz2 rfl (by omega) _ _ j 1 _ [.int .i64 (k : Int)] rfl rfl (own_keep hown (Nat.le_refl _) (by (repeat (first | (with_reducible assumption) | (with_reducible exact Below.refl _ _) | ((with_reducible refine Below.alloc ?_ ?hsz _); (case hsz => (first | omega | (simp; done) | (simp; omega) | (simp at *; omega)))) | ((with_reducible refine Below.setCell ?_ ?hsz _); (case hsz => (first | omega | (simp; done) | (simp; omega) | (simp at *; omega)))) | (with_reducible refine Below.drew ?_) | (with_reducible refine below_drewN ?_ _) | ((with_reducible refine Below.trans ?_ (Below.mono (by with_reducible assumption) ?hsz)); (case hsz => (first | omega | (simp; done) | (simp; omega) | (simp at *; omega)))))))) (lit_src hlit rfl (by simp [Value.oneCell'])) (by unfold maxLen; omega) (by omega) (by (first | omega | (simp; done) | (simp; omega) | (simp at *; omega))) ?_)
             intro r7 w7 hown7 hgr7 hat7))
        have hb7 : Below w.heap.size w w7 := Below.grown (w := (wr.alloc (.cells #[.int .i64 0, .int .i64 ts[k].h, .int .i64 ts[k].p] 33)).alloc (.cells #[.int .i64 (k : Int)] 3)) (by (repeat (first | (with_reducible assumption) | (with_reducible exact Below.refl _ _) | ((with_reducible refine Below.alloc ?_ ?hsz _); (case hsz => (first | omega | (simp; done) | (simp; omega) | (simp at *; omega)))) | ((with_reducible refine Below.setCell ?_ ?hsz _); (case hsz => (first | omega | (simp; done) | (simp; omega) | (simp at *; omega)))) | (with_reducible refine Below.drew ?_) | (with_reducible refine below_drewN ?_ _) | ((with_reducible refine Below.trans ?_ (Below.mono (by with_reducible assumption) ?hsz)); (case hsz => (first | omega | (simp; done) | (simp; omega) | (simp at *; omega))))))) hgr7 (by (first | omega | (simp; done) | (simp; omega) | (simp at *; omega))) hrow
        obtain ⟨A7, c7, rfl, -, -, -⟩ := own_form hown7
        have HO := Lib.hid hown7
        clear hown7 hgr7 hat7 hlit hbb hwz
        go_wp2_with fail
        go_roundw
        case rel => exact ⟨k + 1, j + 1, c7, A7, by omega, by omega, by go_num, rfl, by rw [HS.out, List.length_append, HJ.out]; rfl, by rw [HS.out, List.map_append]; exact HO.out, hb7⟩
        case measure => simp [intOf]; omega
      · have b0 : (ts[k].k == 0) = false := by simpa using h0
        have HS := Lib.hid (plc_no hltp h0)
        have hO := hown
        rw [← HS.out] at hO
        have HO := Lib.hid hO
        clear h0 hO
        go_wp2_with fail
        go_roundw
        case rel => exact ⟨k + 1, j, c1, A1, by omega, by omega, by go_num, rfl, by rw [HS.out]; exact HJ.out, own_keep HO.out (Nat.le_refl _) (by (repeat (first | (with_reducible assumption) | (with_reducible exact Below.refl _ _) | ((with_reducible refine Below.alloc ?_ ?hsz _); (case hsz => (first | omega | (simp; done) | (simp; omega) | (simp at *; omega)))) | ((with_reducible refine Below.setCell ?_ ?hsz _); (case hsz => (first | omega | (simp; done) | (simp; omega) | (simp at *; omega)))) | (with_reducible refine Below.drew ?_) | (with_reducible refine below_drewN ?_ _) | ((with_reducible refine Below.trans ?_ (Below.mono (by with_reducible assumption) ?hsz)); (case hsz => (first | omega | (simp; done) | (simp; omega) | (simp at *; omega))))))), by (repeat (first | (with_reducible assumption) | (with_reducible exact Below.refl _ _) | ((with_reducible refine Below.alloc ?_ ?hsz _); (case hsz => (first | omega | (simp; done) | (simp; omega) | (simp at *; omega)))) | ((with_reducible refine Below.setCell ?_ ?hsz _); (case hsz => (first | omega | (simp; done) | (simp; omega) | (simp at *; omega)))) | (with_reducible refine Below.drew ?_) | (with_reducible refine below_drewN ?_ _) | ((with_reducible refine Below.trans ?_ (Below.mono (by with_reducible assumption) ?hsz)); (case hsz => (first | omega | (simp; done) | (simp; omega) | (simp at *; omega))))))⟩
        case measure => simp [intOf]; omega
    · have hk2 : k = l := by omega
      subst hk2
      have hO : Ints wr w.heap.size (.slice A1 j c1) (plcL ts k) := ⟨by rw [HJ.out]; exact hown, by rw [HJ.out]; unfold small; omega⟩
      clear hown
      go_wp2_with fail
      go_ret
      exact ⟨_, rfl, hO, hb⟩

theorem set1h_list (qs : List Mk) (k : Nat) (hk : k < qs.length) (a : Int) : (qs.flatMap Mk.cells).set (k * 3 + 1) (.int .i64 a) = (qs.set k ⟨qs[k].k, a, qs[k].p⟩).flatMap Mk.cells := by
  induction qs generalizing k with
  | nil => simp at hk
  | cons q qs ih =>
    cases k with
    | zero => simp [List.flatMap_cons, Mk.cells]
    | succ k =>
      have h := ih k (by simpa using hk)
      have e : (k + 1) * 3 + 1 = k * 3 + 1 + 3 := by omega
      have e2 : (q :: qs)[k + 1] = qs[k]'(by simpa using hk) := rfl
      rw [e, e2, List.set_cons_succ, List.flatMap_cons, List.flatMap_cons, ← h]
      simp [Mk.cells]

set_option maxHeartbeats 4000000 in
set_option maxRecDepth 20000 in
theorem heldTerm_any (a hold : Int) (v : Value) (ts : List Mk) (b : Nat) (w : World) (hm : Marks w b v ts) (hs : ts.length ≤ 1048576) :
    Calls Try.prog 25 #[v, .int .i64 a, .int .i64 hold] w fun e w' => ∃ r, e = .returned (.tuple #[r, .bool (hldB ts a hold)]) ∧ Marks w' w.heap.size r (hldR ts a hold) ∧ Below w.heap.size w w' := by
  obtain ⟨A, c, rfl, hc1, hc2, -, -⟩ := hm.form
  unfold maxLen at hc2
  have hpl := plc_len ts ts.length (Nat.le_refl _)
  rw [List.take_length] at hpl
  have hcl := countK_le 0 ts
  obtain ⟨np, hnp⟩ : ∃ np, countK 0 ts = np := ⟨_, rfl⟩
  rw [hnp] at hpl hcl
  have HNP := Lib.hid hnp
  have HPA := Lib.hid (plc_at ts ts.length (Nat.le_refl _))
  obtain ⟨ps, hps⟩ : ∃ ps, plcL ts ts.length = ps := ⟨_, rfl⟩
  rw [hps] at hpl HPA
  have HPS := Lib.hid hps
  have HPL := Lib.hid hpl
  obtain ⟨l, hl⟩ : ∃ l, ts.length = l := ⟨_, rfl⟩
  have HL := Lib.hid hl
  have hs' := hs
  rw [hl] at hm hc1 hcl hs ⊢
  clear hps hnp hpl hl
  go_enter Try.func25, Try.ntmps25
  go_wp2_with fail
  refine (pipeMarks_any _ ts b _ hm hs').mono ?_
  rintro e w1 ⟨r, rfl, hr, hb1⟩
  rw [HPS.out] at hr
  obtain ⟨A1, c1, rfl, hk1, hk2, -, hrc⟩ := hr.form
  rw [HPL.out] at hk1 ⊢
  unfold maxLen at hk2
  have hz1 := hb1.size
  go_wp2_with fail
  refine (termOk_any _ ts b _ (hm.keep hb1)).mono ?_
  rintro e w2 ⟨rfl, hb2⟩
  have hB2 : Below w.heap.size w w2 := hb1.trans (hb2.mono hz1)
  have hz2 := hB2.size
  have hBN := Lib.hid (show ∀ x y z : Bool, termB ts = x → withinB a 0 ((np : Int) - 1) = y → withinB hold 0 4 = z → hldB ts a hold = (x && (y && z)) from fun x y z h1 h2 h3 => by
    rw [hldB, HNP.out, h1, h2, h3])
  cases ht : termB ts
  · have HD := Lib.hid (show hldB ts a hold = false by rw [hBN.out _ _ _ ht rfl rfl]; rfl)
    have HR := Lib.hid (show hldR ts a hold = [] by rw [hldR, if_neg (by simp [HD.out])])
    clear ht
    go_wp2_with fail
    refine bodyPost_ret (v := .tuple #[.slice none 0 0, .bool false]) (by simp [results, Try.results25, go_sem]) rfl ⟨_, by rw [HD.out], by rw [HR.out]; exact Marks_nil _ _, hB2⟩
  · have hl13 := term_len ht
    have HT := Lib.hid ht
    have hnp13 : np ≤ 13 := by have := HL.out; omega
    clear ht hl13
    cases hw1 : withinB a 0 ((np : Int) - 1)
    · have HD := Lib.hid (show hldB ts a hold = false by rw [hBN.out _ _ _ HT.out hw1 rfl]; rfl)
      have HR := Lib.hid (show hldR ts a hold = [] by rw [hldR, if_neg (by simp [HD.out])])
      go_wp2_with (first
        | (go_at_call 56; ((with_reducible refine (within_any _ _ _ _).mono ?_); rintro e w1 ⟨rfl, rfl⟩)))
      refine bodyPost_ret (v := .tuple #[.slice none 0 0, .bool false]) (by simp [results, Try.results25, go_sem]) rfl ⟨_, by rw [HD.out], by rw [HR.out]; exact Marks_nil _ _, hB2⟩
    · cases hw2 : withinB hold 0 4
      · have HD := Lib.hid (show hldB ts a hold = false by rw [hBN.out _ _ _ HT.out hw1 hw2]; rfl)
        have HR := Lib.hid (show hldR ts a hold = [] by rw [hldR, if_neg (by simp [HD.out])])
        go_wp2_with (first
          | (go_at_call 56; ((with_reducible refine (within_any _ _ _ _).mono ?_); rintro e w1 ⟨rfl, rfl⟩)))
        refine bodyPost_ret (v := .tuple #[.slice none 0 0, .bool false]) (by simp [results, Try.results25, go_sem]) rfl ⟨_, by rw [HD.out], by rw [HR.out]; exact Marks_nil _ _, hB2⟩
      · have HD := Lib.hid (show hldB ts a hold = true by rw [hBN.out _ _ _ HT.out hw1 hw2]; rfl)
        have hin : 0 ≤ a ∧ a ≤ (np : Int) - 1 := by simpa [withinB] using hw1
        obtain ⟨an, rfl⟩ := Int.eq_ofNat_of_zero_le hin.1
        have han : an < np := by omega
        obtain ⟨j, hj, hj1, hj2, hj3⟩ := HPA.out an (by rw [HPL.out]; exact han)
        have HR := Lib.hid (show hldR ts an hold = ts.set j ⟨0, hold, ts[j].p⟩ by rw [hldR, if_pos HD.out, ← hj3, held_set hold hj hj2])
        have hkn : an < ps.length := by rw [HPL.out]; exact han
        obtain ⟨gp, rfl, hgp1, hgp2, c0, -⟩ := hrc w2 hb2 an hkn
        have ec : ps[an] = (j : Int) := by rw [← hj1]; simp [List.getD_eq_getElem?_getD, hkn]
        rw [ec] at c0
        have hjl : j < l := by have := HL.out; omega
        have HJ := Lib.hid (And.intro hj2 hj3)
        have hgp3 : gp < w2.heap.size := by have := hb2.size; omega
        clear ec hj1 hj2 hj3 hin hkn
        go_wp2_with (first
          | (go_at_call 56; ((with_reducible refine (within_any _ _ _ _).mono ?_); rintro e w1 ⟨rfl, rfl⟩)))
        refine (cloneMarks_any _ ts b _ (hm.keep hB2) hs').mono ?_
        rintro e w3 ⟨r3, rfl, hr3, hb3⟩
        have c03 := (hb3.cell (p := ⟨gp, an, none⟩) hgp3).trans c0
        have hB3 : Below w.heap.size w w3 := hB2.trans (hb3.mono hz2)
        have hz3 := hb3.size
        have hown3 := hr3.1
        rw [HL.out] at hown3
        obtain ⟨A3, c3, rfl, -, -, -⟩ := own_form hown3
        obtain ⟨g3, rfl, hg31, hg32, hk3, hk4, -⟩ := own_at hown3 (by have := hown3.1; omega)
        unfold maxLen at hk4
        have hjt : j < ts.length := by have := HL.out; omega
        obtain ⟨-, ⟨-, o1, -⟩, hof⟩ := own_cells3 (k := j) hown3 hjt
        have hf1 := hof (j * 3 + 1)
        have hst := (hown3.stored (j * 3 + 1) (.int .i64 hold)).1
        rw [set1h_list ts j hjt hold, HJ.out.1] at hst
        have HST := Lib.hid hst
        have hgp4 : gp < w3.heap.size := by omega
        clear hst hof hown3 hr3 hb3 c0
        go_wp2_with fail
        refine bodyPost_ret (v := .tuple #[.slice (some ⟨g3, 0, none⟩) l c3, .bool true]) (by simp [results, Try.results25, go_sem]) rfl ⟨_, by rw [HD.out], by rw [HR.out]; exact ⟨by rw [List.length_set, HL.out]; exact own_mono HST.out hz2, by rw [List.length_set, HL.out]; unfold small; omega⟩, hB3.setCell (p := ⟨g3, j * 3 + 1, none⟩) (show w.heap.size ≤ g3 by omega) _⟩

end Go.Proofs.Ytaohjhehlkeckaa
