/- Contracts of the functions of chapter 8 in the program: TermOk, PipesIn. -/
import Derived.Test.YtaohjhehlkeckaaW1
import Derived.Test.YtaohjhehlkeckaaA2
namespace Go.Proofs.Ytaohjhehlkeckaa
open Go.RowKit

theorem int_beq (a b : Int) : (a == b) = decide (a = b) := by rw [Bool.eq_iff_iff]; simp
theorem markB_0 {h p : Int} : markB ⟨0, h, p⟩ = (withinB h 0 4 && withinB p 0 9) := by
  simp [markB, withinB]
theorem markB_12 {k h p : Int} (hk : k = 1 ∨ k = 2) : markB ⟨k, h, p⟩ = (decide (h = 0) && decide (p = 0)) := by
  rcases hk with rfl | rfl <;> simp [markB]
theorem markB_no {k h p : Int} (h0 : k ≠ 0) (h1 : k ≠ 1) (h2 : k ≠ 2) : markB ⟨k, h, p⟩ = false := by
  simp [markB, h0, h1, h2]

set_option maxHeartbeats 1000000 in
set_option maxRecDepth 20000 in
theorem markOk_any (m : Mk) (w : World) :
    Calls Try.prog 43 #[.agg #[.int .i64 m.k, .int .i64 m.h, .int .i64 m.p]] w fun e w' => e = .returned (.bool (markB m)) ∧ Below w.heap.size w w' := by
  obtain ⟨k, h, p⟩ := m
  dsimp only
  by_cases h0 : k = 0
  · subst h0
    have HM := Lib.hid (markB_0 (h := h) (p := p))
    go_enter Try.func43, Try.ntmps43
    go_wp2_with (first
      | (go_at_call 56; ((with_reducible refine (within_any _ _ _ _).mono ?_); rintro e w1 ⟨rfl, rfl⟩)))
    all_goals (go_ret; exact ⟨ret_bool (by rw [HM.out]; simp_all), by (repeat (first | (with_reducible assumption) | (with_reducible exact Below.refl _ _) | ((with_reducible refine Below.alloc ?_ ?hsz _); (case hsz => (first | omega | (simp; done) | (simp; omega) | (simp at *; omega)))) | ((with_reducible refine Below.setCell ?_ ?hsz _); (case hsz => (first | omega | (simp; done) | (simp; omega) | (simp at *; omega)))) | (with_reducible refine Below.drew ?_) | (with_reducible refine below_drewN ?_ _) | ((with_reducible refine Below.trans ?_ (Below.mono (by with_reducible assumption) ?hsz)); (case hsz => (first | omega | (simp; done) | (simp; omega) | (simp at *; omega))))))⟩)
  · have b0 : (k == 0) = false := by simpa using h0
    by_cases h1 : k = 1
    · subst h1
      have HM := Lib.hid (markB_12 (k := 1) (h := h) (p := p) (.inl rfl))
      clear h0 b0
      go_enter Try.func43, Try.ntmps43
      go_wp2
      all_goals (go_ret; exact ⟨ret_bool (by rw [HM.out]; first | (simp_all; done) | (simp_all; exact int_beq _ _)), by (repeat (first | (with_reducible assumption) | (with_reducible exact Below.refl _ _) | ((with_reducible refine Below.alloc ?_ ?hsz _); (case hsz => (first | omega | (simp; done) | (simp; omega) | (simp at *; omega)))) | ((with_reducible refine Below.setCell ?_ ?hsz _); (case hsz => (first | omega | (simp; done) | (simp; omega) | (simp at *; omega)))) | (with_reducible refine Below.drew ?_) | (with_reducible refine below_drewN ?_ _) | ((with_reducible refine Below.trans ?_ (Below.mono (by with_reducible assumption) ?hsz)); (case hsz => (first | omega | (simp; done) | (simp; omega) | (simp at *; omega))))))⟩)
    · have b1 : (k == 1) = false := by simpa using h1
      by_cases h2 : k = 2
      · subst h2
        have HM := Lib.hid (markB_12 (k := 2) (h := h) (p := p) (.inr rfl))
        clear h0 b0 h1 b1
        go_enter Try.func43, Try.ntmps43
        go_wp2
        all_goals (go_ret; exact ⟨ret_bool (by rw [HM.out]; first | (simp_all; done) | (simp_all; exact int_beq _ _)), by (repeat (first | (with_reducible assumption) | (with_reducible exact Below.refl _ _) | ((with_reducible refine Below.alloc ?_ ?hsz _); (case hsz => (first | omega | (simp; done) | (simp; omega) | (simp at *; omega)))) | ((with_reducible refine Below.setCell ?_ ?hsz _); (case hsz => (first | omega | (simp; done) | (simp; omega) | (simp at *; omega)))) | (with_reducible refine Below.drew ?_) | (with_reducible refine below_drewN ?_ _) | ((with_reducible refine Below.trans ?_ (Below.mono (by with_reducible assumption) ?hsz)); (case hsz => (first | omega | (simp; done) | (simp; omega) | (simp at *; omega))))))⟩)
      · have b2 : (k == 2) = false := by simpa using h2
        have HM := Lib.hid (markB_no (h := h) (p := p) h0 h1 h2)
        clear h0 h1 h2
        go_enter Try.func43, Try.ntmps43
        go_wp2
        all_goals (go_ret; exact ⟨ret_bool (by rw [HM.out]), by (repeat (first | (with_reducible assumption) | (with_reducible exact Below.refl _ _) | ((with_reducible refine Below.alloc ?_ ?hsz _); (case hsz => (first | omega | (simp; done) | (simp; omega) | (simp at *; omega)))) | ((with_reducible refine Below.setCell ?_ ?hsz _); (case hsz => (first | omega | (simp; done) | (simp; omega) | (simp at *; omega)))) | (with_reducible refine Below.drew ?_) | (with_reducible refine below_drewN ?_ _) | ((with_reducible refine Below.trans ?_ (Below.mono (by with_reducible assumption) ?hsz)); (case hsz => (first | omega | (simp; done) | (simp; omega) | (simp at *; omega))))))⟩)

theorem countK_snoc (kk : Int) (ts : List Mk) (k : Nat) (hk : k < ts.length) : countK kk (ts.take (k + 1)) = countK kk (ts.take k) + if ts[k].k = kk then 1 else 0 := by
  rw [List.take_succ_eq_append_getElem hk, countK_append]
  by_cases h : ts[k].k = kk <;> simp [countK, h]
theorem countK_le (kk : Int) (ts : List Mk) : countK kk ts ≤ ts.length := List.length_filter_le _ _

set_option maxHeartbeats 1000000 in
set_option maxRecDepth 20000 in
theorem countOf_any (kk : Int) (v : Value) (ts : List Mk) (w : World) (h : ArgMarks w v ts) (hs : ts.length ≤ 4194304) :
    Calls Try.prog 44 #[v, .int .i64 kk] w fun e w' => e = .returned (.int .i64 (countK kk ts)) ∧ Below w.heap.size w w' := by
  obtain ⟨A, c, rfl, hc1, hc2, hcell⟩ := h
  unfold maxLen at hc2
  go_enter Try.func44, Try.ntmps44
  go_wp2
  go_loopw [10, 5] (fun i t wr => ∃ k : Nat, k ≤ ts.length ∧ i = .int .i64 k ∧ t = .int .i64 (countK kk (ts.take k)) ∧ Below w.heap.size w wr) (fun i _ _ => ts.length - (intOf i).toNat)
  case atStart => exact ⟨0, by omega, rfl, by simp [countK], by (repeat (first | (with_reducible assumption) | (with_reducible exact Below.refl _ _) | ((with_reducible refine Below.alloc ?_ ?hsz _); (case hsz => (first | omega | (simp; done) | (simp; omega) | (simp at *; omega)))) | ((with_reducible refine Below.setCell ?_ ?hsz _); (case hsz => (first | omega | (simp; done) | (simp; omega) | (simp at *; omega)))) | (with_reducible refine Below.drew ?_) | (with_reducible refine below_drewN ?_ _) | ((with_reducible refine Below.trans ?_ (Below.mono (by with_reducible assumption) ?hsz)); (case hsz => (first | omega | (simp; done) | (simp; omega) | (simp at *; omega))))))⟩
  case round =>
    obtain ⟨k, hk, rfl, rfl, hb⟩ := hrel
    obtain ⟨hcr, hfr, hzr⟩ := bcell hb
    by_cases hlt : k < ts.length
    · obtain ⟨g, o, rfl, hg2, c0, c1, c2⟩ := hcell k hlt
      have hgr : g < wr.heap.size := by omega
      have hle := countK_le kk (ts.take k)
      have hle2 : (ts.take k).length ≤ k := by simp; omega
      have HS := Lib.hid (countK_snoc kk ts k hlt)
      generalize countK kk (ts.take k) = q at *
      by_cases hq : ts[k].k = kk
      · have hq1 : (ts[k].k == kk) = true := by simpa using hq
        have Hq := Lib.hid hq
        clear hq
        go_wp2
        go_roundw
        case rel => exact ⟨k + 1, by omega, by go_num, by rw [HS.out, if_pos Hq.out]; go_num, by (repeat (first | (with_reducible assumption) | (with_reducible exact Below.refl _ _) | ((with_reducible refine Below.alloc ?_ ?hsz _); (case hsz => (first | omega | (simp; done) | (simp; omega) | (simp at *; omega)))) | ((with_reducible refine Below.setCell ?_ ?hsz _); (case hsz => (first | omega | (simp; done) | (simp; omega) | (simp at *; omega)))) | (with_reducible refine Below.drew ?_) | (with_reducible refine below_drewN ?_ _) | ((with_reducible refine Below.trans ?_ (Below.mono (by with_reducible assumption) ?hsz)); (case hsz => (first | omega | (simp; done) | (simp; omega) | (simp at *; omega))))))⟩
        case measure => simp [intOf]; omega
      · have hq1 : (ts[k].k == kk) = false := by simpa using hq
        have Hq := Lib.hid hq
        clear hq
        go_wp2
        go_roundw
        case rel => exact ⟨k + 1, by omega, by go_num, by rw [HS.out, if_neg Hq.out]; simp, by (repeat (first | (with_reducible assumption) | (with_reducible exact Below.refl _ _) | ((with_reducible refine Below.alloc ?_ ?hsz _); (case hsz => (first | omega | (simp; done) | (simp; omega) | (simp at *; omega)))) | ((with_reducible refine Below.setCell ?_ ?hsz _); (case hsz => (first | omega | (simp; done) | (simp; omega) | (simp at *; omega)))) | (with_reducible refine Below.drew ?_) | (with_reducible refine below_drewN ?_ _) | ((with_reducible refine Below.trans ?_ (Below.mono (by with_reducible assumption) ?hsz)); (case hsz => (first | omega | (simp; done) | (simp; omega) | (simp at *; omega))))))⟩
        case measure => simp [intOf]; omega
    · have hk2 : k = ts.length := by omega
      subst hk2
      rw [List.take_length] at *
      go_wp2
      go_ret
      exact ⟨rfl, by (repeat (first | (with_reducible assumption) | (with_reducible exact Below.refl _ _) | ((with_reducible refine Below.alloc ?_ ?hsz _); (case hsz => (first | omega | (simp; done) | (simp; omega) | (simp at *; omega)))) | ((with_reducible refine Below.setCell ?_ ?hsz _); (case hsz => (first | omega | (simp; done) | (simp; omega) | (simp at *; omega)))) | (with_reducible refine Below.drew ?_) | (with_reducible refine below_drewN ?_ _) | ((with_reducible refine Below.trans ?_ (Below.mono (by with_reducible assumption) ?hsz)); (case hsz => (first | omega | (simp; done) | (simp; omega) | (simp at *; omega))))))⟩

theorem parts_snoc (ts : List Mk) (k n : Nat) (hk : k < ts.length) : partsN (ts.take (k + 1)) n = (partsN (ts.take k) n).bind fun q => partStep q ts[k] := by
  rw [List.take_succ_eq_append_getElem hk, partsN_append]
  cases partsN (ts.take k) n with
  | none => rfl
  | some q => simp only [Option.bind_some, partsN]; cases partStep q ts[k] <;> rfl
theorem parts_none (ts : List Mk) (k n : Nat) (h : partsN (ts.take k) n = none) : partsN ts n = none := by
  have h1 := partsN_append (ts.take k) (ts.drop k) n
  rw [List.take_append_drop, h] at h1
  exact h1
theorem parts_le {t : List Mk} {n q : Nat} (h : partsN t n = some q) : q ≤ n + t.length := by
  induction t generalizing n with
  | nil => simp [partsN] at h; omega
  | cons m t ih =>
    simp only [partsN] at h
    cases hs : partStep n m with
    | none => rw [hs] at h; cases h
    | some n' =>
      rw [hs] at h
      have h1 := ih h
      have h2 : n' ≤ n + 1 := by
        unfold partStep at hs
        repeat' split at hs
        all_goals (first | (cases hs; done) | (injection hs with hs; omega))
      simp; omega
theorem termB_none {ts : List Mk} (h : partsN ts 0 = none) : termB ts = false := by simp [termB, h]
theorem termB_some {ts : List Mk} {q : Nat} (h : partsN ts 0 = some q) : termB ts = (decide (q = 1) && (decide (countK 0 ts ≤ 7) && decide (countK 1 ts ≤ 3))) := by
  have : (some q == some 1) = decide (q = 1) := by by_cases hq : q = 1 <;> simp [hq]
  simp [termB, h, this]

set_option maxHeartbeats 2000000 in
set_option maxRecDepth 20000 in
theorem termOk_arg (v : Value) (ts : List Mk) (w : World) (h : ArgMarks w v ts) (hs : ts.length ≤ 4194304) :
    Calls Try.prog 15 #[v] w fun e w' => e = .returned (.bool (termB ts)) ∧ Below w.heap.size w w' := by
  have h' := h
  obtain ⟨A, c, rfl, hc1, hc2, hcell⟩ := h
  unfold maxLen at hc2
  go_enter Try.func15, Try.ntmps15
  go_wp2
  go_loopw [8, 3] (fun i t wr => ∃ k q : Nat, k ≤ ts.length ∧ i = .int .i64 k ∧ t = .int .i64 q ∧ partsN (ts.take k) 0 = some q ∧ Below w.heap.size w wr) (fun i _ _ => ts.length - (intOf i).toNat)
  case atStart => exact ⟨0, 0, by omega, rfl, rfl, rfl, by (repeat (first | (with_reducible assumption) | (with_reducible exact Below.refl _ _) | ((with_reducible refine Below.alloc ?_ ?hsz _); (case hsz => (first | omega | (simp; done) | (simp; omega) | (simp at *; omega)))) | ((with_reducible refine Below.setCell ?_ ?hsz _); (case hsz => (first | omega | (simp; done) | (simp; omega) | (simp at *; omega)))) | (with_reducible refine Below.drew ?_) | (with_reducible refine below_drewN ?_ _) | ((with_reducible refine Below.trans ?_ (Below.mono (by with_reducible assumption) ?hsz)); (case hsz => (first | omega | (simp; done) | (simp; omega) | (simp at *; omega))))))⟩
  case round =>
    obtain ⟨k, q, hk, rfl, rfl, hq, hb⟩ := hrel
    obtain ⟨hcr, hfr, hzr⟩ := bcell hb
    have hq1 := parts_le hq
    have hq2 : (ts.take k).length ≤ k := by simp; omega
    by_cases hlt : k < ts.length
    · obtain ⟨g, o, rfl, hg2, c0, c1, c2⟩ := hcell k hlt
      have hgr : g < wr.heap.size := by omega
      have HS := Lib.hid (by rw [parts_snoc ts k 0 hlt, hq]; rfl : partsN (ts.take (k + 1)) 0 = partStep q ts[k])
      have HN := fun h => termB_none (parts_none ts (k + 1) 0 h)
      have HN' := Lib.hid HN
      clear hq HN
      by_cases hm : markB ts[k] = true
      · by_cases h0 : ts[k].k = 0
        · have b0 : (ts[k].k == 0) = true := by simpa using h0
          have HR := Lib.hid (by rw [HS.out]; simp [partStep, hm, h0] : partsN (ts.take (k + 1)) 0 = some (q + 1))
          clear h0
          go_wp2_with (first
            | (go_at_call 43; ((with_reducible refine (markOk_any ts[k] _).mono ?_); rintro e w1 ⟨rfl, hb1⟩; obtain ⟨hc1, hf1, hz1⟩ := bcell hb1; (try simp at hz1); (try have hy1 : w.heap.size < w1.heap.size := by omega); (try have hy2 : w.heap.size + 1 < w1.heap.size := by omega); (try have hy3 : w.heap.size + 1 + 1 < w1.heap.size := by omega))))
          go_roundw
          case rel => exact ⟨k + 1, q + 1, by omega, by go_num, by go_num, HR.out, by (repeat (first | (with_reducible assumption) | (with_reducible exact Below.refl _ _) | ((with_reducible refine Below.alloc ?_ ?hsz _); (case hsz => (first | omega | (simp; done) | (simp; omega) | (simp at *; omega)))) | ((with_reducible refine Below.setCell ?_ ?hsz _); (case hsz => (first | omega | (simp; done) | (simp; omega) | (simp at *; omega)))) | (with_reducible refine Below.drew ?_) | (with_reducible refine below_drewN ?_ _) | ((with_reducible refine Below.trans ?_ (Below.mono (by with_reducible assumption) ?hsz)); (case hsz => (first | omega | (simp; done) | (simp; omega) | (simp at *; omega))))))⟩
          case measure => simp [intOf]; omega
        · have b0 : (ts[k].k == 0) = false := by simpa using h0
          by_cases h2 : q < 2
          · have HR := Lib.hid (HN'.out (by rw [HS.out]; simp [partStep, hm, h0, h2]))
            clear h0
            go_wp2_with (first
              | (go_at_call 43; ((with_reducible refine (markOk_any ts[k] _).mono ?_); rintro e w1 ⟨rfl, hb1⟩; obtain ⟨hc1, hf1, hz1⟩ := bcell hb1; (try simp at hz1); (try have hy1 : w.heap.size < w1.heap.size := by omega); (try have hy2 : w.heap.size + 1 < w1.heap.size := by omega); (try have hy3 : w.heap.size + 1 + 1 < w1.heap.size := by omega))))
            go_ret
            exact ⟨ret_bool (by first | exact HR.out.symm | (rw [HR.out]; first | (simp; done) | (simp; omega))), by (repeat (first | (with_reducible assumption) | (with_reducible exact Below.refl _ _) | ((with_reducible refine Below.alloc ?_ ?hsz _); (case hsz => (first | omega | (simp; done) | (simp; omega) | (simp at *; omega)))) | ((with_reducible refine Below.setCell ?_ ?hsz _); (case hsz => (first | omega | (simp; done) | (simp; omega) | (simp at *; omega)))) | (with_reducible refine Below.drew ?_) | (with_reducible refine below_drewN ?_ _) | ((with_reducible refine Below.trans ?_ (Below.mono (by with_reducible assumption) ?hsz)); (case hsz => (first | omega | (simp; done) | (simp; omega) | (simp at *; omega))))))⟩
          · have HR := Lib.hid (by rw [HS.out]; simp [partStep, hm, h0, h2] : partsN (ts.take (k + 1)) 0 = some (q - 1))
            clear h0
            go_wp2_with (first
              | (go_at_call 43; ((with_reducible refine (markOk_any ts[k] _).mono ?_); rintro e w1 ⟨rfl, hb1⟩; obtain ⟨hc1, hf1, hz1⟩ := bcell hb1; (try simp at hz1); (try have hy1 : w.heap.size < w1.heap.size := by omega); (try have hy2 : w.heap.size + 1 < w1.heap.size := by omega); (try have hy3 : w.heap.size + 1 + 1 < w1.heap.size := by omega))))
            go_roundw
            case rel => exact ⟨k + 1, q - 1, by omega, by go_num, by go_num, HR.out, by (repeat (first | (with_reducible assumption) | (with_reducible exact Below.refl _ _) | ((with_reducible refine Below.alloc ?_ ?hsz _); (case hsz => (first | omega | (simp; done) | (simp; omega) | (simp at *; omega)))) | ((with_reducible refine Below.setCell ?_ ?hsz _); (case hsz => (first | omega | (simp; done) | (simp; omega) | (simp at *; omega)))) | (with_reducible refine Below.drew ?_) | (with_reducible refine below_drewN ?_ _) | ((with_reducible refine Below.trans ?_ (Below.mono (by with_reducible assumption) ?hsz)); (case hsz => (first | omega | (simp; done) | (simp; omega) | (simp at *; omega))))))⟩
            case measure => simp [intOf]; omega
      · have hm' : markB ts[k] = false := by simpa using hm
        have HR := Lib.hid (HN'.out (by rw [HS.out]; simp [partStep, hm']))
        clear hm
        go_wp2_with (first
          | (go_at_call 43; ((with_reducible refine (markOk_any ts[k] _).mono ?_); rintro e w1 ⟨rfl, hb1⟩; obtain ⟨hc1, hf1, hz1⟩ := bcell hb1; (try simp at hz1); (try have hy1 : w.heap.size < w1.heap.size := by omega); (try have hy2 : w.heap.size + 1 < w1.heap.size := by omega); (try have hy3 : w.heap.size + 1 + 1 < w1.heap.size := by omega))))
        go_ret
        exact ⟨ret_bool (by first | exact HR.out.symm | (rw [HR.out]; first | (simp; done) | (simp; omega))), by (repeat (first | (with_reducible assumption) | (with_reducible exact Below.refl _ _) | ((with_reducible refine Below.alloc ?_ ?hsz _); (case hsz => (first | omega | (simp; done) | (simp; omega) | (simp at *; omega)))) | ((with_reducible refine Below.setCell ?_ ?hsz _); (case hsz => (first | omega | (simp; done) | (simp; omega) | (simp at *; omega)))) | (with_reducible refine Below.drew ?_) | (with_reducible refine below_drewN ?_ _) | ((with_reducible refine Below.trans ?_ (Below.mono (by with_reducible assumption) ?hsz)); (case hsz => (first | omega | (simp; done) | (simp; omega) | (simp at *; omega))))))⟩
    · have hk2 : k = ts.length := by omega
      subst hk2
      rw [List.take_length] at hq
      have HT := termB_some hq
      clear hq
      have Hr := Lib.hid (h'.keep hb)
      by_cases q1 : q = 1
      · subst q1
        by_cases q2 : countK 0 ts ≤ 7
        · by_cases q3 : countK 1 ts ≤ 3
          · have HR := Lib.hid (by rw [HT]; simp [q2, q3] : termB ts = true)
            clear HT
            have hz0 := countK_le 0 ts
            have hz1 := countK_le 1 ts
            go_wp2_with (first
              | (go_at_call 44; ((with_reducible refine (countOf_any _ _ ts _ (Hr.out.keep (by (repeat (first | (with_reducible assumption) | (with_reducible exact Below.refl _ _) | ((with_reducible refine Below.alloc ?_ ?hsz _); (case hsz => (first | omega | (simp; done) | (simp; omega) | (simp at *; omega)))) | ((with_reducible refine Below.setCell ?_ ?hsz _); (case hsz => (first | omega | (simp; done) | (simp; omega) | (simp at *; omega)))) | (with_reducible refine Below.drew ?_) | (with_reducible refine below_drewN ?_ _) | ((with_reducible refine Below.trans ?_ (Below.mono (by with_reducible assumption) ?hsz)); (case hsz => (first | omega | (simp; done) | (simp; omega) | (simp at *; omega)))))))) hs).mono ?_); rintro e w1 ⟨rfl, hb1⟩; obtain ⟨hc1, hf1, hz1⟩ := bcell hb1; (try simp at hz1); (try have hy1 : w.heap.size < w1.heap.size := by omega); (try have hy2 : w.heap.size + 1 < w1.heap.size := by omega); (try have hy3 : w.heap.size + 1 + 1 < w1.heap.size := by omega))))
            go_ret
            exact ⟨ret_bool (by first | exact HR.out.symm | (rw [HR.out]; first | (simp; done) | (simp; omega))), by (repeat (first | (with_reducible assumption) | (with_reducible exact Below.refl _ _) | ((with_reducible refine Below.alloc ?_ ?hsz _); (case hsz => (first | omega | (simp; done) | (simp; omega) | (simp at *; omega)))) | ((with_reducible refine Below.setCell ?_ ?hsz _); (case hsz => (first | omega | (simp; done) | (simp; omega) | (simp at *; omega)))) | (with_reducible refine Below.drew ?_) | (with_reducible refine below_drewN ?_ _) | ((with_reducible refine Below.trans ?_ (Below.mono (by with_reducible assumption) ?hsz)); (case hsz => (first | omega | (simp; done) | (simp; omega) | (simp at *; omega))))))⟩
          · have HR := Lib.hid (by rw [HT]; simp [q3] : termB ts = false)
            clear HT
            go_wp2_with (first
              | (go_at_call 44; ((with_reducible refine (countOf_any _ _ ts _ (Hr.out.keep (by (repeat (first | (with_reducible assumption) | (with_reducible exact Below.refl _ _) | ((with_reducible refine Below.alloc ?_ ?hsz _); (case hsz => (first | omega | (simp; done) | (simp; omega) | (simp at *; omega)))) | ((with_reducible refine Below.setCell ?_ ?hsz _); (case hsz => (first | omega | (simp; done) | (simp; omega) | (simp at *; omega)))) | (with_reducible refine Below.drew ?_) | (with_reducible refine below_drewN ?_ _) | ((with_reducible refine Below.trans ?_ (Below.mono (by with_reducible assumption) ?hsz)); (case hsz => (first | omega | (simp; done) | (simp; omega) | (simp at *; omega)))))))) hs).mono ?_); rintro e w1 ⟨rfl, hb1⟩; obtain ⟨hc1, hf1, hz1⟩ := bcell hb1; (try simp at hz1); (try have hy1 : w.heap.size < w1.heap.size := by omega); (try have hy2 : w.heap.size + 1 < w1.heap.size := by omega); (try have hy3 : w.heap.size + 1 + 1 < w1.heap.size := by omega))))
            go_ret
            exact ⟨ret_bool (by first | exact HR.out.symm | (rw [HR.out]; first | (simp; done) | (simp; omega))), by (repeat (first | (with_reducible assumption) | (with_reducible exact Below.refl _ _) | ((with_reducible refine Below.alloc ?_ ?hsz _); (case hsz => (first | omega | (simp; done) | (simp; omega) | (simp at *; omega)))) | ((with_reducible refine Below.setCell ?_ ?hsz _); (case hsz => (first | omega | (simp; done) | (simp; omega) | (simp at *; omega)))) | (with_reducible refine Below.drew ?_) | (with_reducible refine below_drewN ?_ _) | ((with_reducible refine Below.trans ?_ (Below.mono (by with_reducible assumption) ?hsz)); (case hsz => (first | omega | (simp; done) | (simp; omega) | (simp at *; omega))))))⟩
        · have HR := Lib.hid (by rw [HT]; simp [q2] : termB ts = false)
          clear HT
          go_wp2_with (first
            | (go_at_call 44; ((with_reducible refine (countOf_any _ _ ts _ (Hr.out.keep (by (repeat (first | (with_reducible assumption) | (with_reducible exact Below.refl _ _) | ((with_reducible refine Below.alloc ?_ ?hsz _); (case hsz => (first | omega | (simp; done) | (simp; omega) | (simp at *; omega)))) | ((with_reducible refine Below.setCell ?_ ?hsz _); (case hsz => (first | omega | (simp; done) | (simp; omega) | (simp at *; omega)))) | (with_reducible refine Below.drew ?_) | (with_reducible refine below_drewN ?_ _) | ((with_reducible refine Below.trans ?_ (Below.mono (by with_reducible assumption) ?hsz)); (case hsz => (first | omega | (simp; done) | (simp; omega) | (simp at *; omega)))))))) hs).mono ?_); rintro e w1 ⟨rfl, hb1⟩; obtain ⟨hc1, hf1, hz1⟩ := bcell hb1; (try simp at hz1); (try have hy1 : w.heap.size < w1.heap.size := by omega); (try have hy2 : w.heap.size + 1 < w1.heap.size := by omega); (try have hy3 : w.heap.size + 1 + 1 < w1.heap.size := by omega))))
          go_ret
          exact ⟨ret_bool (by first | exact HR.out.symm | (rw [HR.out]; first | (simp; done) | (simp; omega))), by (repeat (first | (with_reducible assumption) | (with_reducible exact Below.refl _ _) | ((with_reducible refine Below.alloc ?_ ?hsz _); (case hsz => (first | omega | (simp; done) | (simp; omega) | (simp at *; omega)))) | ((with_reducible refine Below.setCell ?_ ?hsz _); (case hsz => (first | omega | (simp; done) | (simp; omega) | (simp at *; omega)))) | (with_reducible refine Below.drew ?_) | (with_reducible refine below_drewN ?_ _) | ((with_reducible refine Below.trans ?_ (Below.mono (by with_reducible assumption) ?hsz)); (case hsz => (first | omega | (simp; done) | (simp; omega) | (simp at *; omega))))))⟩
      · have HR := Lib.hid (by rw [HT]; simp [q1] : termB ts = false)
        clear HT
        go_wp2
        go_ret
        exact ⟨ret_bool (by first | exact HR.out.symm | (rw [HR.out]; first | (simp; done) | (simp; omega))), by (repeat (first | (with_reducible assumption) | (with_reducible exact Below.refl _ _) | ((with_reducible refine Below.alloc ?_ ?hsz _); (case hsz => (first | omega | (simp; done) | (simp; omega) | (simp at *; omega)))) | ((with_reducible refine Below.setCell ?_ ?hsz _); (case hsz => (first | omega | (simp; done) | (simp; omega) | (simp at *; omega)))) | (with_reducible refine Below.drew ?_) | (with_reducible refine below_drewN ?_ _) | ((with_reducible refine Below.trans ?_ (Below.mono (by with_reducible assumption) ?hsz)); (case hsz => (first | omega | (simp; done) | (simp; omega) | (simp at *; omega))))))⟩

theorem termOk_any (v : Value) (ts : List Mk) (b : Nat) (w : World) (h : Marks w b v ts) :
    Calls Try.prog 15 #[v] w fun e w' => e = .returned (.bool (termB ts)) ∧ Below w.heap.size w w' :=
  termOk_arg v ts w h.arg (by have := h.2; unfold small at this; exact this)

def pipesN (ts : List Mk) : Int := if termB ts then countK 0 ts else -1
theorem pipesN_yes {ts : List Mk} (h : termB ts = true) : pipesN ts = countK 0 ts := by simp [pipesN, h]
theorem pipesN_no {ts : List Mk} (h : termB ts = false) : pipesN ts = -1 := by simp [pipesN, h]

set_option maxHeartbeats 1000000 in
set_option maxRecDepth 20000 in
theorem pipesIn_any (v : Value) (ts : List Mk) (b : Nat) (w : World) (h : Marks w b v ts) :
    Calls Try.prog 36 #[v] w fun e w' => e = .returned (.int .i64 (pipesN ts)) ∧ Below w.heap.size w w' := by
  have hs := h.2
  unfold small at hs
  obtain ⟨A, c, rfl, hc1, hc2, -, -⟩ := h.form
  unfold maxLen at hc2
  cases ht : termB ts
  · have HR := Lib.hid (pipesN_no ht)
    go_enter Try.func36, Try.ntmps36
    go_wp2_with (first
      | (go_at_call 15; ((with_reducible refine (termOk_any _ ts b _ (h.keep (by (repeat (first | (with_reducible assumption) | (with_reducible exact Below.refl _ _) | ((with_reducible refine Below.alloc ?_ ?hsz _); (case hsz => (first | omega | (simp; done) | (simp; omega) | (simp at *; omega)))) | ((with_reducible refine Below.setCell ?_ ?hsz _); (case hsz => (first | omega | (simp; done) | (simp; omega) | (simp at *; omega)))) | (with_reducible refine Below.drew ?_) | (with_reducible refine below_drewN ?_ _) | ((with_reducible refine Below.trans ?_ (Below.mono (by with_reducible assumption) ?hsz)); (case hsz => (first | omega | (simp; done) | (simp; omega) | (simp at *; omega))))))))).mono ?_); rintro e w1 ⟨rfl, hb1⟩; obtain ⟨hc1, hf1, hz1⟩ := bcell hb1; (try simp at hz1); (try have hy1 : w.heap.size < w1.heap.size := by omega); (try have hy2 : w.heap.size + 1 < w1.heap.size := by omega); (try have hy3 : w.heap.size + 1 + 1 < w1.heap.size := by omega))))
    go_ret
    exact ⟨ret_int HR.out.symm, by (repeat (first | (with_reducible assumption) | (with_reducible exact Below.refl _ _) | ((with_reducible refine Below.alloc ?_ ?hsz _); (case hsz => (first | omega | (simp; done) | (simp; omega) | (simp at *; omega)))) | ((with_reducible refine Below.setCell ?_ ?hsz _); (case hsz => (first | omega | (simp; done) | (simp; omega) | (simp at *; omega)))) | (with_reducible refine Below.drew ?_) | (with_reducible refine below_drewN ?_ _) | ((with_reducible refine Below.trans ?_ (Below.mono (by with_reducible assumption) ?hsz)); (case hsz => (first | omega | (simp; done) | (simp; omega) | (simp at *; omega))))))⟩
  · have HR := Lib.hid (pipesN_yes ht)
    go_enter Try.func36, Try.ntmps36
    go_wp2_with (first
      | (go_at_call 15; ((with_reducible refine (termOk_any _ ts b _ (h.keep (by (repeat (first | (with_reducible assumption) | (with_reducible exact Below.refl _ _) | ((with_reducible refine Below.alloc ?_ ?hsz _); (case hsz => (first | omega | (simp; done) | (simp; omega) | (simp at *; omega)))) | ((with_reducible refine Below.setCell ?_ ?hsz _); (case hsz => (first | omega | (simp; done) | (simp; omega) | (simp at *; omega)))) | (with_reducible refine Below.drew ?_) | (with_reducible refine below_drewN ?_ _) | ((with_reducible refine Below.trans ?_ (Below.mono (by with_reducible assumption) ?hsz)); (case hsz => (first | omega | (simp; done) | (simp; omega) | (simp at *; omega))))))))).mono ?_); rintro e w1 ⟨rfl, hb1⟩; obtain ⟨hc1, hf1, hz1⟩ := bcell hb1; (try simp at hz1); (try have hy1 : w.heap.size < w1.heap.size := by omega); (try have hy2 : w.heap.size + 1 < w1.heap.size := by omega); (try have hy3 : w.heap.size + 1 + 1 < w1.heap.size := by omega)))
      | (go_at_call 44; ((with_reducible refine (countOf_any _ _ ts _ (h.arg.keep (by (repeat (first | (with_reducible assumption) | (with_reducible exact Below.refl _ _) | ((with_reducible refine Below.alloc ?_ ?hsz _); (case hsz => (first | omega | (simp; done) | (simp; omega) | (simp at *; omega)))) | ((with_reducible refine Below.setCell ?_ ?hsz _); (case hsz => (first | omega | (simp; done) | (simp; omega) | (simp at *; omega)))) | (with_reducible refine Below.drew ?_) | (with_reducible refine below_drewN ?_ _) | ((with_reducible refine Below.trans ?_ (Below.mono (by with_reducible assumption) ?hsz)); (case hsz => (first | omega | (simp; done) | (simp; omega) | (simp at *; omega)))))))) hs).mono ?_); rintro e w1 ⟨rfl, hb1⟩; obtain ⟨hc1, hf1, hz1⟩ := bcell hb1; (try simp at hz1); (try have hy1 : w.heap.size < w1.heap.size := by omega); (try have hy2 : w.heap.size + 1 < w1.heap.size := by omega); (try have hy3 : w.heap.size + 1 + 1 < w1.heap.size := by omega))))
    go_ret
    exact ⟨ret_int HR.out.symm, by (repeat (first | (with_reducible assumption) | (with_reducible exact Below.refl _ _) | ((with_reducible refine Below.alloc ?_ ?hsz _); (case hsz => (first | omega | (simp; done) | (simp; omega) | (simp at *; omega)))) | ((with_reducible refine Below.setCell ?_ ?hsz _); (case hsz => (first | omega | (simp; done) | (simp; omega) | (simp at *; omega)))) | (with_reducible refine Below.drew ?_) | (with_reducible refine below_drewN ?_ _) | ((with_reducible refine Below.trans ?_ (Below.mono (by with_reducible assumption) ?hsz)); (case hsz => (first | omega | (simp; done) | (simp; omega) | (simp at *; omega))))))⟩

end Go.Proofs.Ytaohjhehlkeckaa
