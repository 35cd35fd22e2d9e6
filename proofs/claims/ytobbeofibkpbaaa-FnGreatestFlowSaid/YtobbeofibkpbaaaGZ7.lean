/- Plain facts. -/
import Derived.Test.YtobbeofibkpbaaaGZ52
import Derived.Test.YtobbeofibkpbaaaGZ10
import Derived.Test.YtobbeofibkpbaaaGZ21
import Derived.Laws.StructEq
/- Contracts of the functions of chapter 8 in the program: TermOk, PipesIn. -/
namespace Go.Proofs.Ytobbeofibkpbaaa
open Go.RowKit

theorem int_beq (a b : Int) : (a == b) = decide (a = b) := by rw [Bool.eq_iff_iff]; simp
theorem markB_0 {h p : Int} : markB ⟨0, h, p⟩ = (withinB h 0 4 && withinB p 0 9) := by
  simp [markB, withinB]
theorem markB_12 {k h p : Int} (hk : k = 1 ∨ k = 2) : markB ⟨k, h, p⟩ = (decide (h = 0) && decide (p = 0)) := by
  rcases hk with rfl | rfl <;> simp [markB]
theorem markB_no {k h p : Int} (h0 : k ≠ 0) (h1 : k ≠ 1) (h2 : k ≠ 2) : markB ⟨k, h, p⟩ = false := by
  simp [markB, h0, h1, h2]

set_option maxHeartbeats 1000000 in
set_option maxRecDepth 20000 in
theorem markOk_any (m : Mk) (w : World) :
    Calls Try.prog 99 #[.agg #[.int .i64 m.k, .int .i64 m.h, .int .i64 m.p]] w fun e w' => e = .returned (.bool (markB m)) ∧ Below w.heap.size w w' := by
  obtain ⟨k, h, p⟩ := m
  dsimp only
  by_cases h0 : k = 0
  · subst h0
    have HM := Lib.hid (markB_0 (h := h) (p := p))
    go_enter Try.func99, Try.ntmps99
    go_wp2_with (first
      | (go_at_call 77; ((with_reducible refine (within_any _ _ _ _).mono ?_); rintro e w1 ⟨rfl, rfl⟩)))
    all_goals (go_ret; exact ⟨ret_bool (by rw [HM.out]; simp_all), by (repeat (first | (with_reducible assumption) | (with_reducible exact Below.refl _ _) | ((with_reducible refine Below.alloc ?_ ?hsz _); (case hsz => (first | omega | (simp; done) | (simp; omega) | (simp at *; omega)))) | ((with_reducible refine Below.setCell ?_ ?hsz _); (case hsz => (first | omega | (simp; done) | (simp; omega) | (simp at *; omega)))) | (with_reducible refine Below.drew ?_) | (with_reducible refine below_drewN ?_ _) | ((with_reducible refine Below.trans ?_ (Below.mono (by with_reducible assumption) ?hsz)); (case hsz => (first | omega | (simp; done) | (simp; omega) | (simp at *; omega))))))⟩)
  · have b0 : (k == 0) = false := by simpa using h0
    by_cases h1 : k = 1
    · subst h1
      have HM := Lib.hid (markB_12 (k := 1) (h := h) (p := p) (.inl rfl))
      clear h0 b0
      go_enter Try.func99, Try.ntmps99
      go_wp2
      all_goals (go_ret; exact ⟨ret_bool (by rw [HM.out]; first | (simp_all; done) | (simp_all; exact int_beq _ _)), by (repeat (first | (with_reducible assumption) | (with_reducible exact Below.refl _ _) | ((with_reducible refine Below.alloc ?_ ?hsz _); (case hsz => (first | omega | (simp; done) | (simp; omega) | (simp at *; omega)))) | ((with_reducible refine Below.setCell ?_ ?hsz _); (case hsz => (first | omega | (simp; done) | (simp; omega) | (simp at *; omega)))) | (with_reducible refine Below.drew ?_) | (with_reducible refine below_drewN ?_ _) | ((with_reducible refine Below.trans ?_ (Below.mono (by with_reducible assumption) ?hsz)); (case hsz => (first | omega | (simp; done) | (simp; omega) | (simp at *; omega))))))⟩)
    · have b1 : (k == 1) = false := by simpa using h1
      by_cases h2 : k = 2
      · subst h2
        have HM := Lib.hid (markB_12 (k := 2) (h := h) (p := p) (.inr rfl))
        clear h0 b0 h1 b1
        go_enter Try.func99, Try.ntmps99
        go_wp2
        all_goals (go_ret; exact ⟨ret_bool (by rw [HM.out]; first | (simp_all; done) | (simp_all; exact int_beq _ _)), by (repeat (first | (with_reducible assumption) | (with_reducible exact Below.refl _ _) | ((with_reducible refine Below.alloc ?_ ?hsz _); (case hsz => (first | omega | (simp; done) | (simp; omega) | (simp at *; omega)))) | ((with_reducible refine Below.setCell ?_ ?hsz _); (case hsz => (first | omega | (simp; done) | (simp; omega) | (simp at *; omega)))) | (with_reducible refine Below.drew ?_) | (with_reducible refine below_drewN ?_ _) | ((with_reducible refine Below.trans ?_ (Below.mono (by with_reducible assumption) ?hsz)); (case hsz => (first | omega | (simp; done) | (simp; omega) | (simp at *; omega))))))⟩)
      · have b2 : (k == 2) = false := by simpa using h2
        have HM := Lib.hid (markB_no (h := h) (p := p) h0 h1 h2)
        clear h0 h1 h2
        go_enter Try.func99, Try.ntmps99
        go_wp2
        all_goals (go_ret; exact ⟨ret_bool (by rw [HM.out]), by (repeat (first | (with_reducible assumption) | (with_reducible exact Below.refl _ _) | ((with_reducible refine Below.alloc ?_ ?hsz _); (case hsz => (first | omega | (simp; done) | (simp; omega) | (simp at *; omega)))) | ((with_reducible refine Below.setCell ?_ ?hsz _); (case hsz => (first | omega | (simp; done) | (simp; omega) | (simp at *; omega)))) | (with_reducible refine Below.drew ?_) | (with_reducible refine below_drewN ?_ _) | ((with_reducible refine Below.trans ?_ (Below.mono (by with_reducible assumption) ?hsz)); (case hsz => (first | omega | (simp; done) | (simp; omega) | (simp at *; omega))))))⟩)

theorem countK_snoc (kk : Int) (ts : List Mk) (k : Nat) (hk : k < ts.length) : countK kk (ts.take (k + 1)) = countK kk (ts.take k) + if ts[k].k = kk then 1 else 0 := by
  rw [List.take_succ_eq_append_getElem hk, countK_append]
  by_cases h : ts[k].k = kk <;> simp [countK, h]
theorem countK_le (kk : Int) (ts : List Mk) : countK kk ts ≤ ts.length := List.length_filter_le _ _

set_option maxHeartbeats 1000000 in
set_option maxRecDepth 20000 in
theorem countOf_any (kk : Int) (v : Value) (ts : List Mk) (w : World) (h : ArgMarks w v ts) (hs : ts.length ≤ 4194304) :
    Calls Try.prog 100 #[v, .int .i64 kk] w fun e w' => e = .returned (.int .i64 (countK kk ts)) ∧ Below w.heap.size w w' := by
  obtain ⟨A, c, rfl, hc1, hc2, hcell⟩ := h
  unfold maxLen at hc2
  go_enter Try.func100, Try.ntmps100
  go_wp2
  go_loopw [10, 5] (fun i t wr => ∃ k : Nat, k ≤ ts.length ∧ i = .int .i64 k ∧ t = .int .i64 (countK kk (ts.take k)) ∧ Below w.heap.size w wr) (fun i _ _ => ts.length - (intOf i).toNat)
  case atStart => exact ⟨0, by omega, rfl, by simp [countK], by (repeat (first | (with_reducible assumption) | (with_reducible exact Below.refl _ _) | ((with_reducible refine Below.alloc ?_ ?hsz _); (case hsz => (first | omega | (simp; done) | (simp; omega) | (simp at *; omega)))) | ((with_reducible refine Below.setCell ?_ ?hsz _); (case hsz => (first | omega | (simp; done) | (simp; omega) | (simp at *; omega)))) | (with_reducible refine Below.drew ?_) | (with_reducible refine below_drewN ?_ _) | ((with_reducible refine Below.trans ?_ (Below.mono (by with_reducible assumption) ?hsz)); (case hsz => (first | omega | (simp; done) | (simp; omega) | (simp at *; omega))))))⟩
  case round =>
    obtain ⟨k, hk, rfl, rfl, hb⟩ := hrel
    obtain ⟨hcr, hfr, hzr⟩ := bcell hb
    by_cases hlt : k < ts.length
    · obtain ⟨g, o, rfl, hg2, c0, c1, c2⟩ := hcell k hlt
      have hgr : g < wr.heap.size := by omega
      have hle := countK_le kk (ts.take k)
      have hle2 : (ts.take k).length ≤ k := by simp; omega
      have HS := Lib.hid (countK_snoc kk ts k hlt)
      generalize countK kk (ts.take k) = q at *
      by_cases hq : ts[k].k = kk
      · have hq1 : (ts[k].k == kk) = true := by simpa using hq
        have Hq := Lib.hid hq
        clear hq
        go_wp2
        go_roundw
        case rel => exact ⟨k + 1, by omega, by go_num, by rw [HS.out, if_pos Hq.out]; go_num, by (repeat (first | (with_reducible assumption) | (with_reducible exact Below.refl _ _) | ((with_reducible refine Below.alloc ?_ ?hsz _); (case hsz => (first | omega | (simp; done) | (simp; omega) | (simp at *; omega)))) | ((with_reducible refine Below.setCell ?_ ?hsz _); (case hsz => (first | omega | (simp; done) | (simp; omega) | (simp at *; omega)))) | (with_reducible refine Below.drew ?_) | (with_reducible refine below_drewN ?_ _) | ((with_reducible refine Below.trans ?_ (Below.mono (by with_reducible assumption) ?hsz)); (case hsz => (first | omega | (simp; done) | (simp; omega) | (simp at *; omega))))))⟩
        case measure => simp [intOf]; omega
      · have hq1 : (ts[k].k == kk) = false := by simpa using hq
        have Hq := Lib.hid hq
        clear hq
        go_wp2
        go_roundw
        case rel => exact ⟨k + 1, by omega, by go_num, by rw [HS.out, if_neg Hq.out]; simp, by (repeat (first | (with_reducible assumption) | (with_reducible exact Below.refl _ _) | ((with_reducible refine Below.alloc ?_ ?hsz _); (case hsz => (first | omega | (simp; done) | (simp; omega) | (simp at *; omega)))) | ((with_reducible refine Below.setCell ?_ ?hsz _); (case hsz => (first | omega | (simp; done) | (simp; omega) | (simp at *; omega)))) | (with_reducible refine Below.drew ?_) | (with_reducible refine below_drewN ?_ _) | ((with_reducible refine Below.trans ?_ (Below.mono (by with_reducible assumption) ?hsz)); (case hsz => (first | omega | (simp; done) | (simp; omega) | (simp at *; omega))))))⟩
        case measure => simp [intOf]; omega
    · have hk2 : k = ts.length := by omega
      subst hk2
      rw [List.take_length] at *
      go_wp2
      go_ret
      exact ⟨rfl, by (repeat (first | (with_reducible assumption) | (with_reducible exact Below.refl _ _) | ((with_reducible refine Below.alloc ?_ ?hsz _); (case hsz => (first | omega | (simp; done) | (simp; omega) | (simp at *; omega)))) | ((with_reducible refine Below.setCell ?_ ?hsz _); (case hsz => (first | omega | (simp; done) | (simp; omega) | (simp at *; omega)))) | (with_reducible refine Below.drew ?_) | (with_reducible refine below_drewN ?_ _) | ((with_reducible refine Below.trans ?_ (Below.mono (by with_reducible assumption) ?hsz)); (case hsz => (first | omega | (simp; done) | (simp; omega) | (simp at *; omega))))))⟩

theorem parts_snoc (ts : List Mk) (k n : Nat) (hk : k < ts.length) : partsN (ts.take (k + 1)) n = (partsN (ts.take k) n).bind fun q => partStep q ts[k] := by
  rw [List.take_succ_eq_append_getElem hk, partsN_append]
  cases partsN (ts.take k) n with
  | none => rfl
  | some q => simp only [Option.bind_some, partsN]; cases partStep q ts[k] <;> rfl
theorem parts_none (ts : List Mk) (k n : Nat) (h : partsN (ts.take k) n = none) : partsN ts n = none := by
  have h1 := partsN_append (ts.take k) (ts.drop k) n
  rw [List.take_append_drop, h] at h1
  exact h1
theorem parts_le {t : List Mk} {n q : Nat} (h : partsN t n = some q) : q ≤ n + t.length := by
  induction t generalizing n with
  | nil => simp [partsN] at h; omega
  | cons m t ih =>
    simp only [partsN] at h
    cases hs : partStep n m with
    | none => rw [hs] at h; cases h
    | some n' =>
      rw [hs] at h
      have h1 := ih h
      have h2 : n' ≤ n + 1 := by
        unfold partStep at hs
        repeat' split at hs
        all_goals (first | (cases hs; done) | (injection hs with hs; omega))
      simp; omega
theorem termB_none {ts : List Mk} (h : partsN ts 0 = none) : termB ts = false := by simp [termB, h]
theorem termB_some {ts : List Mk} {q : Nat} (h : partsN ts 0 = some q) : termB ts = (decide (q = 1) && (decide (countK 0 ts ≤ 7) && decide (countK 1 ts ≤ 3))) := by
  have : (some q == some 1) = decide (q = 1) := by by_cases hq : q = 1 <;> simp [hq]
  simp [termB, h, this]

set_option maxHeartbeats 2000000 in
set_option maxRecDepth 20000 in
theorem termOk_arg (v : Value) (ts : List Mk) (w : World) (h : ArgMarks w v ts) (hs : ts.length ≤ 4194304) :
    Calls Try.prog 45 #[v] w fun e w' => e = .returned (.bool (termB ts)) ∧ Below w.heap.size w w' := by
  have h' := h
  obtain ⟨A, c, rfl, hc1, hc2, hcell⟩ := h
  unfold maxLen at hc2
  go_enter Try.func45, Try.ntmps45
  go_wp2
  go_loopw [8, 3] (fun i t wr => ∃ k q : Nat, k ≤ ts.length ∧ i = .int .i64 k ∧ t = .int .i64 q ∧ partsN (ts.take k) 0 = some q ∧ Below w.heap.size w wr) (fun i _ _ => ts.length - (intOf i).toNat)
  case atStart => exact ⟨0, 0, by omega, rfl, rfl, rfl, by (repeat (first | (with_reducible assumption) | (with_reducible exact Below.refl _ _) | ((with_reducible refine Below.alloc ?_ ?hsz _); (case hsz => (first | omega | (simp; done) | (simp; omega) | (simp at *; omega)))) | ((with_reducible refine Below.setCell ?_ ?hsz _); (case hsz => (first | omega | (simp; done) | (simp; omega) | (simp at *; omega)))) | (with_reducible refine Below.drew ?_) | (with_reducible refine below_drewN ?_ _) | ((with_reducible refine Below.trans ?_ (Below.mono (by with_reducible assumption) ?hsz)); (case hsz => (first | omega | (simp; done) | (simp; omega) | (simp at *; omega))))))⟩
  case round =>
    obtain ⟨k, q, hk, rfl, rfl, hq, hb⟩ := hrel
    obtain ⟨hcr, hfr, hzr⟩ := bcell hb
    have hq1 := parts_le hq
    have hq2 : (ts.take k).length ≤ k := by simp; omega
    by_cases hlt : k < ts.length
    · obtain ⟨g, o, rfl, hg2, c0, c1, c2⟩ := hcell k hlt
      have hgr : g < wr.heap.size := by omega
      have HS := Lib.hid (by rw [parts_snoc ts k 0 hlt, hq]; rfl : partsN (ts.take (k + 1)) 0 = partStep q ts[k])
      have HN := fun h => termB_none (parts_none ts (k + 1) 0 h)
      have HN' := Lib.hid HN
      clear hq HN
      by_cases hm : markB ts[k] = true
      · by_cases h0 : ts[k].k = 0
        · have b0 : (ts[k].k == 0) = true := by simpa using h0
          have HR := Lib.hid (by rw [HS.out]; simp [partStep, hm, h0] : partsN (ts.take (k + 1)) 0 = some (q + 1))
          clear h0
          go_wp2_with (first
            | (go_at_call 99; ((with_reducible refine (markOk_any ts[k] _).mono ?_); rintro e w1 ⟨rfl, hb1⟩; obtain ⟨hc1, hf1, hz1⟩ := bcell hb1; (try simp at hz1); (try have hy1 : w.heap.size < w1.heap.size := by omega); (try have hy2 : w.heap.size + 1 < w1.heap.size := by omega); (try have hy3 : w.heap.size + 1 + 1 < w1.heap.size := by omega))))
          go_roundw
          case rel => exact ⟨k + 1, q + 1, by omega, by go_num, by go_num, HR.out, by (repeat (first | (with_reducible assumption) | (with_reducible exact Below.refl _ _) | ((with_reducible refine Below.alloc ?_ ?hsz _); (case hsz => (first | omega | (simp; done) | (simp; omega) | (simp at *; omega)))) | ((with_reducible refine Below.setCell ?_ ?hsz _); (case hsz => (first | omega | (simp; done) | (simp; omega) | (simp at *; omega)))) | (with_reducible refine Below.drew ?_) | (with_reducible refine below_drewN ?_ _) | ((with_reducible refine Below.trans ?_ (Below.mono (by with_reducible assumption) ?hsz)); (case hsz => (first | omega | (simp; done) | (simp; omega) | (simp at *; omega))))))⟩
          case measure => simp [intOf]; omega
        · have b0 : (ts[k].k == 0) = false := by simpa using h0
          by_cases h2 : q < 2
          · have HR := Lib.hid (HN'.out (by rw [HS.out]; simp [partStep, hm, h0, h2]))
            clear h0
            go_wp2_with (first
              | (go_at_call 99; ((with_reducible refine (markOk_any ts[k] _).mono ?_); rintro e w1 ⟨rfl, hb1⟩; obtain ⟨hc1, hf1, hz1⟩ := bcell hb1; (try simp at hz1); (try have hy1 : w.heap.size < w1.heap.size := by omega); (try have hy2 : w.heap.size + 1 < w1.heap.size := by omega); (try have hy3 : w.heap.size + 1 + 1 < w1.heap.size := by omega))))
            go_ret
            exact ⟨ret_bool (by first | exact HR.out.symm | (rw [HR.out]; first | (simp; done) | (simp; omega))), by (repeat (first | (with_reducible assumption) | (with_reducible exact Below.refl _ _) | ((with_reducible refine Below.alloc ?_ ?hsz _); (case hsz => (first | omega | (simp; done) | (simp; omega) | (simp at *; omega)))) | ((with_reducible refine Below.setCell ?_ ?hsz _); (case hsz => (first | omega | (simp; done) | (simp; omega) | (simp at *; omega)))) | (with_reducible refine Below.drew ?_) | (with_reducible refine below_drewN ?_ _) | ((with_reducible refine Below.trans ?_ (Below.mono (by with_reducible assumption) ?hsz)); (case hsz => (first | omega | (simp; done) | (simp; omega) | (simp at *; omega))))))⟩
          · have HR := Lib.hid (by rw [HS.out]; simp [partStep, hm, h0, h2] : partsN (ts.take (k + 1)) 0 = some (q - 1))
            clear h0
            go_wp2_with (first
              | (go_at_call 99; ((with_reducible refine (markOk_any ts[k] _).mono ?_); rintro e w1 ⟨rfl, hb1⟩; obtain ⟨hc1, hf1, hz1⟩ := bcell hb1; (try simp at hz1); (try have hy1 : w.heap.size < w1.heap.size := by omega); (try have hy2 : w.heap.size + 1 < w1.heap.size := by omega); (try have hy3 : w.heap.size + 1 + 1 < w1.heap.size := by omega))))
            go_roundw
            case rel => exact ⟨k + 1, q - 1, by omega, by go_num, by go_num, HR.out, by (repeat (first | (with_reducible assumption) | (with_reducible exact Below.refl _ _) | ((with_reducible refine Below.alloc ?_ ?hsz _); (case hsz => (first | omega | (simp; done) | (simp; omega) | (simp at *; omega)))) | ((with_reducible refine Below.setCell ?_ ?hsz _); (case hsz => (first | omega | (simp; done) | (simp; omega) | (simp at *; omega)))) | (with_reducible refine Below.drew ?_) | (with_reducible refine below_drewN ?_ _) | ((with_reducible refine Below.trans ?_ (Below.mono (by with_reducible assumption) ?hsz)); (case hsz => (first | omega | (simp; done) | (simp; omega) | (simp at *; omega))))))⟩
            case measure => simp [intOf]; omega
      · have hm' : markB ts[k] = false := by simpa using hm
        have HR := Lib.hid (HN'.out (by rw [HS.out]; simp [partStep, hm']))
        clear hm
        go_wp2_with (first
          | (go_at_call 99; ((with_reducible refine (markOk_any ts[k] _).mono ?_); rintro e w1 ⟨rfl, hb1⟩; obtain ⟨hc1, hf1, hz1⟩ := bcell hb1; (try simp at hz1); (try have hy1 : w.heap.size < w1.heap.size := by omega); (try have hy2 : w.heap.size + 1 < w1.heap.size := by omega); (try have hy3 : w.heap.size + 1 + 1 < w1.heap.size := by omega))))
        go_ret
        exact ⟨ret_bool (by first | exact HR.out.symm | (rw [HR.out]; first | (simp; done) | (simp; omega))), by (repeat (first | (with_reducible assumption) | (with_reducible exact Below.refl _ _) | ((with_reducible refine Below.alloc ?_ ?hsz _); (case hsz => (first | omega | (simp; done) | (simp; omega) | (simp at *; omega)))) | ((with_reducible refine Below.setCell ?_ ?hsz _); (case hsz => (first | omega | (simp; done) | (simp; omega) | (simp at *; omega)))) | (with_reducible refine Below.drew ?_) | (with_reducible refine below_drewN ?_ _) | ((with_reducible refine Below.trans ?_ (Below.mono (by with_reducible assumption) ?hsz)); (case hsz => (first | omega | (simp; done) | (simp; omega) | (simp at *; omega))))))⟩
    · have hk2 : k = ts.length := by omega
      subst hk2
      rw [List.take_length] at hq
      have HT := termB_some hq
      clear hq
      have Hr := Lib.hid (h'.keep hb)
      by_cases q1 : q = 1
      · subst q1
        by_cases q2 : countK 0 ts ≤ 7
        · by_cases q3 : countK 1 ts ≤ 3
          · have HR := Lib.hid (by rw [HT]; simp [q2, q3] : termB ts = true)
            clear HT
            have hz0 := countK_le 0 ts
            have hz1 := countK_le 1 ts
            go_wp2_with (first
              | (go_at_call 100; ((with_reducible refine (countOf_any _ _ ts _ (Hr.out.keep (by (repeat (first | (with_reducible assumption) | (with_reducible exact Below.refl _ _) | ((with_reducible refine Below.alloc ?_ ?hsz _); (case hsz => (first | omega | (simp; done) | (simp; omega) | (simp at *; omega)))) | ((with_reducible refine Below.setCell ?_ ?hsz _); (case hsz => (first | omega | (simp; done) | (simp; omega) | (simp at *; omega)))) | (with_reducible refine Below.drew ?_) | (with_reducible refine below_drewN ?_ _) | ((with_reducible refine Below.trans ?_ (Below.mono (by with_reducible assumption) ?hsz)); (case hsz => (first | omega | (simp; done) | (simp; omega) | (simp at *; omega)))))))) hs).mono ?_); rintro e w1 ⟨rfl, hb1⟩; obtain ⟨hc1, hf1, hz1⟩ := bcell hb1; (try simp at hz1); (try have hy1 : w.heap.size < w1.heap.size := by omega); (try have hy2 : w.heap.size + 1 < w1.heap.size := by omega); (try have hy3 : w.heap.size + 1 + 1 < w1.heap.size := by omega))))
            go_ret
            exact ⟨ret_bool (by first | exact HR.out.symm | (rw [HR.out]; first | (simp; done) | (simp; omega))), by (repeat (first | (with_reducible assumption) | (with_reducible exact Below.refl _ _) | ((with_reducible refine Below.alloc ?_ ?hsz _); (case hsz => (first | omega | (simp; done) | (simp; omega) | (simp at *; omega)))) | ((with_reducible refine Below.setCell ?_ ?hsz _); (case hsz => (first | omega | (simp; done) | (simp; omega) | (simp at *; omega)))) | (with_reducible refine Below.drew ?_) | (with_reducible refine below_drewN ?_ _) | ((with_reducible refine Below.trans ?_ (Below.mono (by with_reducible assumption) ?hsz)); (case hsz => (first | omega | (simp; done) | (simp; omega) | (simp at *; omega))))))⟩
          · have HR := Lib.hid (by rw [HT]; simp [q3] : termB ts = false)
            clear HT
            go_wp2_with (first
              | (go_at_call 100; ((with_reducible refine (countOf_any _ _ ts _ (Hr.out.keep (by (repeat (first | (with_reducible assumption) | (with_reducible exact Below.refl _ _) | ((with_reducible refine Below.alloc ?_ ?hsz _); (case hsz => (first | omega | (simp; done) | (simp; omega) | (simp at *; omega)))) | ((with_reducible refine Below.setCell ?_ ?hsz _); (case hsz => (first | omega | (simp; done) | (simp; omega) | (simp at *; omega)))) | (with_reducible refine Below.drew ?_) | (with_reducible refine below_drewN ?_ _) | ((with_reducible refine Below.trans ?_ (Below.mono (by with_reducible assumption) ?hsz)); (case hsz => (first | omega | (simp; done) | (simp; omega) | (simp at *; omega)))))))) hs).mono ?_); rintro e w1 ⟨rfl, hb1⟩; obtain ⟨hc1, hf1, hz1⟩ := bcell hb1; (try simp at hz1); (try have hy1 : w.heap.size < w1.heap.size := by omega); (try have hy2 : w.heap.size + 1 < w1.heap.size := by omega); (try have hy3 : w.heap.size + 1 + 1 < w1.heap.size := by omega))))
            go_ret
            exact ⟨ret_bool (by first | exact HR.out.symm | (rw [HR.out]; first | (simp; done) | (simp; omega))), by (repeat (first | (with_reducible assumption) | (with_reducible exact Below.refl _ _) | ((with_reducible refine Below.alloc ?_ ?hsz _); (case hsz => (first | omega | (simp; done) | (simp; omega) | (simp at *; omega)))) | ((with_reducible refine Below.setCell ?_ ?hsz _); (case hsz => (first | omega | (simp; done) | (simp; omega) | (simp at *; omega)))) | (with_reducible refine Below.drew ?_) | (with_reducible refine below_drewN ?_ _) | ((with_reducible refine Below.trans ?_ (Below.mono (by with_reducible assumption) ?hsz)); (case hsz => (first | omega | (simp; done) | (simp; omega) | (simp at *; omega))))))⟩
        · have HR := Lib.hid (by rw [HT]; simp [q2] : termB ts = false)
          clear HT
          go_wp2_with (first
            | (go_at_call 100; ((with_reducible refine (countOf_any _ _ ts _ (Hr.out.keep (by (repeat (first | (with_reducible assumption) | (with_reducible exact Below.refl _ _) | ((with_reducible refine Below.alloc ?_ ?hsz _); (case hsz => (first | omega | (simp; done) | (simp; omega) | (simp at *; omega)))) | ((with_reducible refine Below.setCell ?_ ?hsz _); (case hsz => (first | omega | (simp; done) | (simp; omega) | (simp at *; omega)))) | (with_reducible refine Below.drew ?_) | (with_reducible refine below_drewN ?_ _) | ((with_reducible refine Below.trans ?_ (Below.mono (by with_reducible assumption) ?hsz)); (case hsz => (first | omega | (simp; done) | (simp; omega) | (simp at *; omega)))))))) hs).mono ?_); rintro e w1 ⟨rfl, hb1⟩; obtain ⟨hc1, hf1, hz1⟩ := bcell hb1; (try simp at hz1); (try have hy1 : w.heap.size < w1.heap.size := by omega); (try have hy2 : w.heap.size + 1 < w1.heap.size := by omega); (try have hy3 : w.heap.size + 1 + 1 < w1.heap.size := by omega))))
          go_ret
          exact ⟨ret_bool (by first | exact HR.out.symm | (rw [HR.out]; first | (simp; done) | (simp; omega))), by (repeat (first | (with_reducible assumption) | (with_reducible exact Below.refl _ _) | ((with_reducible refine Below.alloc ?_ ?hsz _); (case hsz => (first | omega | (simp; done) | (simp; omega) | (simp at *; omega)))) | ((with_reducible refine Below.setCell ?_ ?hsz _); (case hsz => (first | omega | (simp; done) | (simp; omega) | (simp at *; omega)))) | (with_reducible refine Below.drew ?_) | (with_reducible refine below_drewN ?_ _) | ((with_reducible refine Below.trans ?_ (Below.mono (by with_reducible assumption) ?hsz)); (case hsz => (first | omega | (simp; done) | (simp; omega) | (simp at *; omega))))))⟩
      · have HR := Lib.hid (by rw [HT]; simp [q1] : termB ts = false)
        clear HT
        go_wp2
        go_ret
        exact ⟨ret_bool (by first | exact HR.out.symm | (rw [HR.out]; first | (simp; done) | (simp; omega))), by (repeat (first | (with_reducible assumption) | (with_reducible exact Below.refl _ _) | ((with_reducible refine Below.alloc ?_ ?hsz _); (case hsz => (first | omega | (simp; done) | (simp; omega) | (simp at *; omega)))) | ((with_reducible refine Below.setCell ?_ ?hsz _); (case hsz => (first | omega | (simp; done) | (simp; omega) | (simp at *; omega)))) | (with_reducible refine Below.drew ?_) | (with_reducible refine below_drewN ?_ _) | ((with_reducible refine Below.trans ?_ (Below.mono (by with_reducible assumption) ?hsz)); (case hsz => (first | omega | (simp; done) | (simp; omega) | (simp at *; omega))))))⟩

theorem termOk_any (v : Value) (ts : List Mk) (b : Nat) (w : World) (h : Marks w b v ts) :
    Calls Try.prog 45 #[v] w fun e w' => e = .returned (.bool (termB ts)) ∧ Below w.heap.size w w' :=
  termOk_arg v ts w h.arg (by have := h.2; unfold small at this; exact this)

end Go.Proofs.Ytobbeofibkpbaaa

/- Contracts of the functions of chapter 8 in the model: TermOk, PipesIn. -/
namespace Go.Proofs.Ytobbeofibkpbaaa
open Go.RowKit

def eqMk2 (p q : Mk) : Bool := decide (p = q)
theorem eqMarks_run (p q : Mk) (w : World) : (Op.equalIn 10000 102 (.agg #[.int .i64 p.k, .int .i64 p.h, .int .i64 p.p]) (.agg #[.int .i64 q.k, .int .i64 q.h, .int .i64 q.p])).run Try.prog w = .ok (eqMk2 p q) w := by
  have hS : Try.prog.underlying 102 = some (.struct (Try.prog.fieldsOf 102)) := by kernel_rfl
  have u3 := Try.underlying3
  have a3 := Try.isAgg3
  have z3 := Try.sizeOf3
  rw [show (10000 : Nat) = 9999 + 1 from rfl, run_equalIn_agg w 9999 102 _ _ hS (by kernel_rfl)]
  simp only [Program.fieldsOf, Try.underlying102]
  go_simp
  obtain ⟨a, b, c⟩ := p
  obtain ⟨a', b', c'⟩ := q
  simp only [eqMk2]
  by_cases h1 : a = a' <;> by_cases h2 : b = b' <;> by_cases h3 : c = c' <;> simp [h1, h2, h3]

/- the kinds of marks that the model's switch tells apart -/
theorem mark_kinds (m : Mk) (n : Nat) : (m.k = 0 ∧ withinB m.h 0 4 = true ∧ withinB m.p 0 9 = true ∧ partStep n m = some (n + 1)) ∨
    (m.k = 0 ∧ (withinB m.h 0 4 = false ∨ withinB m.p 0 9 = false) ∧ partStep n m = none) ∨
    (m = ⟨1, 0, 0⟩ ∧ ((2 ≤ n ∧ partStep n m = some (n - 1)) ∨ (n < 2 ∧ partStep n m = none))) ∨
    (m = ⟨2, 0, 0⟩ ∧ ((2 ≤ n ∧ partStep n m = some (n - 1)) ∨ (n < 2 ∧ partStep n m = none))) ∨
    (m.k ≠ 0 ∧ m ≠ ⟨1, 0, 0⟩ ∧ m ≠ ⟨2, 0, 0⟩ ∧ partStep n m = none) := by
  obtain ⟨k, h, p⟩ := m
  by_cases h0 : k = 0
  · subst h0
    cases h1 : withinB h 0 4
    · exact .inr (.inl ⟨rfl, .inl rfl, by simp [partStep, markB_0, h1]⟩)
    · cases h2 : withinB p 0 9
      · exact .inr (.inl ⟨rfl, .inr rfl, by simp [partStep, markB_0, h2]⟩)
      · exact .inl ⟨rfl, rfl, rfl, by simp [partStep, markB_0, h1, h2]⟩
  · by_cases h1 : (⟨k, h, p⟩ : Mk) = ⟨1, 0, 0⟩
    · refine .inr (.inr (.inl ⟨h1, ?_⟩))
      rw [h1]
      by_cases hn : n < 2
      · exact .inr ⟨hn, by simp [partStep, markB, hn]⟩
      · exact .inl ⟨by omega, by simp [partStep, markB, hn]⟩
    · by_cases h2 : (⟨k, h, p⟩ : Mk) = ⟨2, 0, 0⟩
      · refine .inr (.inr (.inr (.inl ⟨h2, ?_⟩)))
        rw [h2]
        by_cases hn : n < 2
        · exact .inr ⟨hn, by simp [partStep, markB, hn]⟩
        · exact .inl ⟨by omega, by simp [partStep, markB, hn]⟩
      · refine .inr (.inr (.inr (.inr ⟨h0, h1, h2, ?_⟩)))
        have : markB ⟨k, h, p⟩ = false := by
          rw [Bool.eq_false_iff]
          intro hm
          simp only [markB, h0, if_false] at hm
          split at hm
          · rename_i h12
            have h3 : h = 0 ∧ p = 0 := by simpa using hm
            obtain ⟨rfl, rfl⟩ := h3
            rcases h12 with rfl | rfl
            · exact h1 rfl
            · exact h2 rfl
          · cases hm
        simp [partStep, this]

set_option maxHeartbeats 8000000 in
set_option maxRecDepth 20000 in
theorem specTermOk_arg (v : Value) (ts : List Mk) (w : World) (h : ArgMarks w v ts) (hs : ts.length ≤ 4194304) :
    Calls Try.prog 97 #[v] w fun e w' => e = .returned (.bool (termB ts)) ∧ Below w.heap.size w w' := by
  obtain ⟨A, c, rfl, hc1, hc2, hcell⟩ := h
  unfold maxLen at hc2
  go_enter Try.func97, Try.ntmps97
  go_wp2
  go_loopw [6, 3, 4, 5] (fun i t p h wr => ∃ k q : Nat, k ≤ ts.length ∧ i = .int .i64 k ∧ t = .int .i64 q ∧ p = .int .i64 (countK 0 (ts.take k)) ∧ h = .int .i64 (countK 1 (ts.take k)) ∧ partsN (ts.take k) 0 = some q ∧ Below w.heap.size w wr) (fun i _ _ _ _ => ts.length - (intOf i).toNat)
  case atStart => exact ⟨0, 0, by omega, rfl, rfl, by simp [countK], by simp [countK], rfl, by (repeat (first | (with_reducible assumption) | (with_reducible exact Below.refl _ _) | ((with_reducible refine Below.alloc ?_ ?hsz _); (case hsz => (first | omega | (simp; done) | (simp; omega) | (simp at *; omega)))) | ((with_reducible refine Below.setCell ?_ ?hsz _); (case hsz => (first | omega | (simp; done) | (simp; omega) | (simp at *; omega)))) | (with_reducible refine Below.drew ?_) | (with_reducible refine below_drewN ?_ _) | ((with_reducible refine Below.trans ?_ (Below.mono (by with_reducible assumption) ?hsz)); (case hsz => (first | omega | (simp; done) | (simp; omega) | (simp at *; omega))))))⟩
  case round =>
    obtain ⟨k, q, hk, rfl, rfl, rfl, rfl, hq, hb⟩ := hrel
    obtain ⟨hcr, hfr, hzr⟩ := bcell hb
    have hq1 := parts_le hq
    have hq2 : (ts.take k).length ≤ k := by simp; omega
    by_cases hlt : k < ts.length
    · obtain ⟨g, o, rfl, hg2, c0, c1, c2⟩ := hcell k hlt
      have hgr : g < wr.heap.size := by omega
      have hs0 := countK_snoc 0 ts k hlt
      have hs1 := countK_snoc 1 ts k hlt
      have hl0 := countK_le 0 (ts.take k)
      have hl1 := countK_le 1 (ts.take k)
      have hS : partsN (ts.take (k + 1)) 0 = partStep q ts[k] := by rw [parts_snoc ts k 0 hlt, hq]; rfl
      have HN := Lib.hid (fun h => termB_none (parts_none ts (k + 1) 0 h))
      have hgd : Try.prog.eqGuardType Try.prog.depth 102 = false := by kernel_rfl
      have hmk := mark_kinds ts[k] q
      generalize countK 0 (ts.take k) = n0 at *
      generalize countK 1 (ts.take k) = n1 at *
      generalize partStep q ts[k] = ps at *
      clear hq
      rcases hmk with ⟨h0, h1, h2, hp⟩ | ⟨h0, h1, hp⟩ | ⟨hm, hp⟩ | ⟨hm, hp⟩ | ⟨h0, hm1, hm2, hp⟩
      · have b0 : (ts[k].k == 0) = true := by simpa using h0
        have HR := Lib.hid (And.intro (hS.trans hp) (And.intro hs0 hs1))
        have H0 := Lib.hid h0
        clear hS hs0 hs1 h0 hp
        go_wp2_with (first
          | (go_at_call 83; ((with_reducible refine (l1In_any _ _ _ _).mono ?_); rintro e w1 ⟨rfl, rfl⟩)))
        go_roundw
        case rel => exact ⟨k + 1, q + 1, by omega, by go_num, by go_num, by rw [HR.out.2.1, H0.out, if_pos rfl]; go_num, by rw [HR.out.2.2, H0.out, if_neg (by omega)]; simp, HR.out.1, by (repeat (first | (with_reducible assumption) | (with_reducible exact Below.refl _ _) | ((with_reducible refine Below.alloc ?_ ?hsz _); (case hsz => (first | omega | (simp; done) | (simp; omega) | (simp at *; omega)))) | ((with_reducible refine Below.setCell ?_ ?hsz _); (case hsz => (first | omega | (simp; done) | (simp; omega) | (simp at *; omega)))) | (with_reducible refine Below.drew ?_) | (with_reducible refine below_drewN ?_ _) | ((with_reducible refine Below.trans ?_ (Below.mono (by with_reducible assumption) ?hsz)); (case hsz => (first | omega | (simp; done) | (simp; omega) | (simp at *; omega))))))⟩
        case measure => simp [intOf]; omega
      · have b0 : (ts[k].k == 0) = true := by simpa using h0
        have HR := Lib.hid (HN.out (hS.trans hp))
        have e1 : eqMk2 ts[k] ⟨1, 0, 0⟩ = false := by simp [eqMk2]; intro h; rw [h] at h0; simp at h0
        have e2 : eqMk2 ts[k] ⟨2, 0, 0⟩ = false := by simp [eqMk2]; intro h; rw [h] at h0; simp at h0
        have hr1 := fun w => eqMarks_run ts[k] ⟨1, 0, 0⟩ w
        have hr2 := fun w => eqMarks_run ts[k] ⟨2, 0, 0⟩ w
        simp only [e1, e2] at hr1 hr2
        clear hS hs0 hs1 h0 hp e1 e2
        rcases h1 with h1 | h1
        all_goals (
          go_wp2_with (first
            | (go_at_call 83; ((with_reducible refine (l1In_any _ _ _ _).mono ?_); rintro e w1 ⟨rfl, rfl⟩)))
          all_goals (go_ret; exact ⟨ret_bool HR.out.symm, by (repeat (first | (with_reducible assumption) | (with_reducible exact Below.refl _ _) | ((with_reducible refine Below.alloc ?_ ?hsz _); (case hsz => (first | omega | (simp; done) | (simp; omega) | (simp at *; omega)))) | ((with_reducible refine Below.setCell ?_ ?hsz _); (case hsz => (first | omega | (simp; done) | (simp; omega) | (simp at *; omega)))) | (with_reducible refine Below.drew ?_) | (with_reducible refine below_drewN ?_ _) | ((with_reducible refine Below.trans ?_ (Below.mono (by with_reducible assumption) ?hsz)); (case hsz => (first | omega | (simp; done) | (simp; omega) | (simp at *; omega))))))⟩))
      · have hr1 := fun w => eqMarks_run ts[k] ⟨1, 0, 0⟩ w
        have e1 : eqMk2 ts[k] ⟨1, 0, 0⟩ = true := by simp [eqMk2, hm]
        have e2 : eqMk2 ts[k] ⟨2, 0, 0⟩ = false := by simp [eqMk2, hm]
        have hr2 := fun w => eqMarks_run ts[k] ⟨2, 0, 0⟩ w
        simp only [e1, e2] at hr1 hr2
        have b0 : (ts[k].k == 0) = false := by rw [hm]; rfl
        have H0 := Lib.hid (show ts[k].k = 1 by rw [hm])
        clear hm e1 e2
        rcases hp with ⟨hq3, hp⟩ | ⟨hq3, hp⟩
        · have HR := Lib.hid (And.intro (hS.trans hp) (And.intro hs0 hs1))
          clear hS hs0 hs1 hp
          go_wp2
          go_roundw
          case rel => exact ⟨k + 1, q - 1, by omega, by go_num, by go_num, by rw [HR.out.2.1, H0.out, if_neg (by omega)]; simp, by rw [HR.out.2.2, H0.out, if_pos rfl]; go_num, HR.out.1, by (repeat (first | (with_reducible assumption) | (with_reducible exact Below.refl _ _) | ((with_reducible refine Below.alloc ?_ ?hsz _); (case hsz => (first | omega | (simp; done) | (simp; omega) | (simp at *; omega)))) | ((with_reducible refine Below.setCell ?_ ?hsz _); (case hsz => (first | omega | (simp; done) | (simp; omega) | (simp at *; omega)))) | (with_reducible refine Below.drew ?_) | (with_reducible refine below_drewN ?_ _) | ((with_reducible refine Below.trans ?_ (Below.mono (by with_reducible assumption) ?hsz)); (case hsz => (first | omega | (simp; done) | (simp; omega) | (simp at *; omega))))))⟩
          case measure => simp [intOf]; omega
        · have HR := Lib.hid (HN.out (hS.trans hp))
          clear hS hs0 hs1 hp
          go_wp2
          all_goals (go_ret; exact ⟨ret_bool HR.out.symm, by (repeat (first | (with_reducible assumption) | (with_reducible exact Below.refl _ _) | ((with_reducible refine Below.alloc ?_ ?hsz _); (case hsz => (first | omega | (simp; done) | (simp; omega) | (simp at *; omega)))) | ((with_reducible refine Below.setCell ?_ ?hsz _); (case hsz => (first | omega | (simp; done) | (simp; omega) | (simp at *; omega)))) | (with_reducible refine Below.drew ?_) | (with_reducible refine below_drewN ?_ _) | ((with_reducible refine Below.trans ?_ (Below.mono (by with_reducible assumption) ?hsz)); (case hsz => (first | omega | (simp; done) | (simp; omega) | (simp at *; omega))))))⟩)
      · have hr1 := fun w => eqMarks_run ts[k] ⟨1, 0, 0⟩ w
        have e1 : eqMk2 ts[k] ⟨1, 0, 0⟩ = false := by simp [eqMk2, hm]
        have e2 : eqMk2 ts[k] ⟨2, 0, 0⟩ = true := by simp [eqMk2, hm]
        have hr2 := fun w => eqMarks_run ts[k] ⟨2, 0, 0⟩ w
        simp only [e1, e2] at hr1 hr2
        have b0 : (ts[k].k == 0) = false := by rw [hm]; rfl
        have H0 := Lib.hid (show ts[k].k = 2 by rw [hm])
        clear hm e1 e2
        rcases hp with ⟨hq3, hp⟩ | ⟨hq3, hp⟩
        · have HR := Lib.hid (And.intro (hS.trans hp) (And.intro hs0 hs1))
          clear hS hs0 hs1 hp
          go_wp2
          go_roundw
          case rel => exact ⟨k + 1, q - 1, by omega, by go_num, by go_num, by rw [HR.out.2.1, H0.out, if_neg (by omega)]; simp, by rw [HR.out.2.2, H0.out, if_neg (by omega)]; simp, HR.out.1, by (repeat (first | (with_reducible assumption) | (with_reducible exact Below.refl _ _) | ((with_reducible refine Below.alloc ?_ ?hsz _); (case hsz => (first | omega | (simp; done) | (simp; omega) | (simp at *; omega)))) | ((with_reducible refine Below.setCell ?_ ?hsz _); (case hsz => (first | omega | (simp; done) | (simp; omega) | (simp at *; omega)))) | (with_reducible refine Below.drew ?_) | (with_reducible refine below_drewN ?_ _) | ((with_reducible refine Below.trans ?_ (Below.mono (by with_reducible assumption) ?hsz)); (case hsz => (first | omega | (simp; done) | (simp; omega) | (simp at *; omega))))))⟩
          case measure => simp [intOf]; omega
        · have HR := Lib.hid (HN.out (hS.trans hp))
          clear hS hs0 hs1 hp
          go_wp2
          all_goals (go_ret; exact ⟨ret_bool HR.out.symm, by (repeat (first | (with_reducible assumption) | (with_reducible exact Below.refl _ _) | ((with_reducible refine Below.alloc ?_ ?hsz _); (case hsz => (first | omega | (simp; done) | (simp; omega) | (simp at *; omega)))) | ((with_reducible refine Below.setCell ?_ ?hsz _); (case hsz => (first | omega | (simp; done) | (simp; omega) | (simp at *; omega)))) | (with_reducible refine Below.drew ?_) | (with_reducible refine below_drewN ?_ _) | ((with_reducible refine Below.trans ?_ (Below.mono (by with_reducible assumption) ?hsz)); (case hsz => (first | omega | (simp; done) | (simp; omega) | (simp at *; omega))))))⟩)
      · have b0 : (ts[k].k == 0) = false := by simpa using h0
        have HR := Lib.hid (HN.out (hS.trans hp))
        have e1 : eqMk2 ts[k] ⟨1, 0, 0⟩ = false := by simp [eqMk2, hm1]
        have e2 : eqMk2 ts[k] ⟨2, 0, 0⟩ = false := by simp [eqMk2, hm2]
        have hr1 := fun w => eqMarks_run ts[k] ⟨1, 0, 0⟩ w
        have hr2 := fun w => eqMarks_run ts[k] ⟨2, 0, 0⟩ w
        simp only [e1, e2] at hr1 hr2
        clear hS hs0 hs1 h0 hp e1 e2 hm1 hm2
        go_wp2
        all_goals (go_ret; exact ⟨ret_bool HR.out.symm, by (repeat (first | (with_reducible assumption) | (with_reducible exact Below.refl _ _) | ((with_reducible refine Below.alloc ?_ ?hsz _); (case hsz => (first | omega | (simp; done) | (simp; omega) | (simp at *; omega)))) | ((with_reducible refine Below.setCell ?_ ?hsz _); (case hsz => (first | omega | (simp; done) | (simp; omega) | (simp at *; omega)))) | (with_reducible refine Below.drew ?_) | (with_reducible refine below_drewN ?_ _) | ((with_reducible refine Below.trans ?_ (Below.mono (by with_reducible assumption) ?hsz)); (case hsz => (first | omega | (simp; done) | (simp; omega) | (simp at *; omega))))))⟩)
    · have hk2 : k = ts.length := by omega
      subst hk2
      rw [List.take_length] at *
      have HT := termB_some hq
      clear hq
      have hz0 := countK_le 0 ts
      have hz1 := countK_le 1 ts
      by_cases q1 : q = 1
      · subst q1
        by_cases q2 : countK 0 ts ≤ 7
        · by_cases q3 : countK 1 ts ≤ 3
          · have HR := Lib.hid (by rw [HT]; simp [q2, q3] : termB ts = true)
            clear HT
            go_wp2
            go_ret
            exact ⟨ret_bool (by first | exact HR.out.symm | (rw [HR.out]; first | (simp; done) | (simp; omega))), by (repeat (first | (with_reducible assumption) | (with_reducible exact Below.refl _ _) | ((with_reducible refine Below.alloc ?_ ?hsz _); (case hsz => (first | omega | (simp; done) | (simp; omega) | (simp at *; omega)))) | ((with_reducible refine Below.setCell ?_ ?hsz _); (case hsz => (first | omega | (simp; done) | (simp; omega) | (simp at *; omega)))) | (with_reducible refine Below.drew ?_) | (with_reducible refine below_drewN ?_ _) | ((with_reducible refine Below.trans ?_ (Below.mono (by with_reducible assumption) ?hsz)); (case hsz => (first | omega | (simp; done) | (simp; omega) | (simp at *; omega))))))⟩
          · have HR := Lib.hid (by rw [HT]; simp [q3] : termB ts = false)
            clear HT
            go_wp2
            go_ret
            exact ⟨ret_bool (by first | exact HR.out.symm | (rw [HR.out]; first | (simp; done) | (simp; omega))), by (repeat (first | (with_reducible assumption) | (with_reducible exact Below.refl _ _) | ((with_reducible refine Below.alloc ?_ ?hsz _); (case hsz => (first | omega | (simp; done) | (simp; omega) | (simp at *; omega)))) | ((with_reducible refine Below.setCell ?_ ?hsz _); (case hsz => (first | omega | (simp; done) | (simp; omega) | (simp at *; omega)))) | (with_reducible refine Below.drew ?_) | (with_reducible refine below_drewN ?_ _) | ((with_reducible refine Below.trans ?_ (Below.mono (by with_reducible assumption) ?hsz)); (case hsz => (first | omega | (simp; done) | (simp; omega) | (simp at *; omega))))))⟩
        · have HR := Lib.hid (by rw [HT]; simp [q2] : termB ts = false)
          clear HT
          go_wp2
          go_ret
          exact ⟨ret_bool (by first | exact HR.out.symm | (rw [HR.out]; first | (simp; done) | (simp; omega))), by (repeat (first | (with_reducible assumption) | (with_reducible exact Below.refl _ _) | ((with_reducible refine Below.alloc ?_ ?hsz _); (case hsz => (first | omega | (simp; done) | (simp; omega) | (simp at *; omega)))) | ((with_reducible refine Below.setCell ?_ ?hsz _); (case hsz => (first | omega | (simp; done) | (simp; omega) | (simp at *; omega)))) | (with_reducible refine Below.drew ?_) | (with_reducible refine below_drewN ?_ _) | ((with_reducible refine Below.trans ?_ (Below.mono (by with_reducible assumption) ?hsz)); (case hsz => (first | omega | (simp; done) | (simp; omega) | (simp at *; omega))))))⟩
      · have HR := Lib.hid (by rw [HT]; simp [q1] : termB ts = false)
        clear HT
        go_wp2
        go_ret
        exact ⟨ret_bool (by first | exact HR.out.symm | (rw [HR.out]; first | (simp; done) | (simp; omega))), by (repeat (first | (with_reducible assumption) | (with_reducible exact Below.refl _ _) | ((with_reducible refine Below.alloc ?_ ?hsz _); (case hsz => (first | omega | (simp; done) | (simp; omega) | (simp at *; omega)))) | ((with_reducible refine Below.setCell ?_ ?hsz _); (case hsz => (first | omega | (simp; done) | (simp; omega) | (simp at *; omega)))) | (with_reducible refine Below.drew ?_) | (with_reducible refine below_drewN ?_ _) | ((with_reducible refine Below.trans ?_ (Below.mono (by with_reducible assumption) ?hsz)); (case hsz => (first | omega | (simp; done) | (simp; omega) | (simp at *; omega))))))⟩

theorem specTermOk_any (v : Value) (ts : List Mk) (b : Nat) (w : World) (h : Marks w b v ts) :
    Calls Try.prog 97 #[v] w fun e w' => e = .returned (.bool (termB ts)) ∧ Below w.heap.size w w' :=
  specTermOk_arg v ts w h.arg (by have := h.2; unfold small at this; exact this)

end Go.Proofs.Ytobbeofibkpbaaa
