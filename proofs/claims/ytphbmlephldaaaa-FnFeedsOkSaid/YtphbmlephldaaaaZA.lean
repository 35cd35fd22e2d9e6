/- Contracts of the functions of chapter 10 in the model: NeedsOk, FeedsOk. -/
import Derived.Test.YtphbmlephldaaaaGQ15
import Derived.Test.YtphbmlephldaaaaGQ8
import Derived.Test.YtphbmlephldaaaaGQ23
import Derived.Test.YtphbmlephldaaaaGQ4
import Derived.Test.YtphbmlephldaaaaGQ22
namespace Go.Proofs.Ytphbmlephldaaaa
open Go.RowKit

def nsum (nd : List Int) (k : Nat) : Int := nodeSum k fun j => nd.getD j 0
theorem nsum_succ (nd : List Int) (k : Nat) : nsum nd (k + 1) = nsum nd k + nd.getD k 0 := nodeSum_succ _ _
theorem nsum_bd {nd : List Int} (k : Nat) (hk : k ≤ nd.length) (h : ∀ x ∈ nd.take k, withinB x (-12) 12 = true) : -(12 * (k : Int)) ≤ nsum nd k ∧ nsum nd k ≤ 12 * (k : Int) := by
  have key : ∀ j, j ≤ k → -(12 * (j : Int)) ≤ nsum nd j ∧ nsum nd j ≤ 12 * (j : Int) := by
    intro j
    induction j with
    | zero => intro _; exact ⟨Int.le_refl _, Int.le_refl _⟩
    | succ j ih =>
      intro hj
      have h1 := ih (by omega)
      have hm : nd[j]'(by omega) ∈ nd.take k := by
        rw [List.mem_take_iff_getElem]
        exact ⟨j, by omega, rfl⟩
      have h2 := h _ hm
      simp only [withinB, Bool.and_eq_true, decide_eq_true_eq] at h2
      rw [nsum_succ, getD_at (show j < nd.length by omega)]
      omega
  exact key k (Nat.le_refl _)
theorem needsB_free {n : Int} {ps : List Pp} {nd : List Int} (h : freeB n ps = false) : needsB n ps nd = false := by rw [needsB, h]; rfl
theorem needsB_out {n : Int} {ps : List Pp} {nd : List Int} (h : (nd.all fun x => withinB x (-12) 12) = false) : needsB n ps nd = false := by rw [needsB, h]; simp
theorem needsB_len {n : Int} {ps : List Pp} {nd : List Int} (h : ¬ (nd.length : Int) = n) : needsB n ps nd = false := by rw [needsB]; simp [h]
theorem needsB_sum {n : Int} {ps : List Pp} {nd : List Int} (h1 : freeB n ps = true) (h2 : (nd.all fun x => withinB x (-12) 12) = true) (h3 : (nd.length : Int) = n) : needsB n ps nd = (nsum nd nd.length == 0) := by
  rw [needsB, h1, h2, beq_dec]
  simp [h3, nsum]

set_option maxHeartbeats 2000000 in
set_option maxRecDepth 20000 in
theorem specNeedsOk_any (n : Int) (v u : Value) (ps : List Pp) (nd : List Int) (b b' : Nat) (w : World) (hp : Pipes w b v ps) (hx : Ints w b' u nd) :
    Calls Try.prog 35 #[.agg #[.int .i64 n, v], u] w fun e w' => e = .returned (.bool (needsB n ps nd)) ∧ Below w.heap.size w w' := by
  have hp0 := hp
  have hsm := hx.2
  unfold small at hsm
  obtain ⟨A, c, rfl, -, -, -, -⟩ := hp.form
  obtain ⟨A', c', rfl, hc1', hc2', hs', hcell'⟩ := hx.form
  unfold maxLen at hc2'
  have bx0 := Box2.new w (.int .i64 n) (.slice A ps.length c) 25
  have hB0 : Below w.heap.size w (w.alloc (.cells #[.int .i64 n, .slice A ps.length c] 25)) := by (repeat (first | (with_reducible assumption) | (with_reducible exact Below.refl _ _) | ((with_reducible refine Below.alloc ?_ ?hsz _); (case hsz => (first | omega | (simp; done) | (simp; omega) | (simp at *; omega)))) | ((with_reducible refine Below.setCell ?_ ?hsz _); (case hsz => (first | omega | (simp; done) | (simp; omega) | (simp at *; omega)))) | (with_reducible refine Below.drew ?_) | (with_reducible refine below_drewN ?_ _) | ((with_reducible refine Below.trans ?_ (Below.mono (by with_reducible assumption) ?hsz)); (case hsz => (first | omega | (simp; done) | (simp; omega) | (simp at *; omega))))))
  go_enter Try.func35, Try.ntmps35
  go_wp2_with fail
  go_loopw [6, 5] (fun i s wr => ∃ k : Nat, k ≤ nd.length ∧ i = .int .i64 k ∧ s = .int .i64 (nsum nd k) ∧ (∀ x ∈ nd.take k, withinB x (-12) 12 = true) ∧ Below w.heap.size w wr ∧ Box2 wr w.heap.size (.int .i64 n) (.slice A ps.length c)) (fun i _ _ => nd.length - (intOf i).toNat)
  case atStart => exact ⟨0, by omega, rfl, rfl, by simp, hB0, bx0⟩
  case round =>
    clear bx0 hB0
    obtain ⟨k, hk, rfl, rfl, hall, hb, bx⟩ := hrel
    obtain ⟨s1, s2⟩ := nsum_bd k hk hall
    have Hall := Lib.hid hall
    clear hall
    have hzb := hb.size
    by_cases hlt : k < nd.length
    · obtain ⟨g, rfl, hg1, hg2, c0, -⟩ := hcell' wr hb k hlt
      by_cases hz : withinB nd[k] (-12) 12 = true
      · have Hn := Lib.hid (all_take (f := fun x : Int => withinB x (-12) 12) hlt Hall.out hz)
        have hbd : -12 ≤ nd[k] ∧ nd[k] ≤ 12 := by simpa only [withinB, Bool.and_eq_true, decide_eq_true_eq] using hz
        have HS := nsum_succ nd k
        rw [getD_at hlt] at HS
        have Hs := Lib.hid HS
        obtain ⟨x1, x2⟩ := hbd
        clear HS
        generalize nd[k] = x at *
        generalize nsum nd k = sm at *
        go_wp2_with fail
        refine (l1In_any x _ _ _).mono ?_
        rintro e w1 ⟨rfl, rfl⟩
        rw [hz]
        go_wp2
        go_roundw
        case rel => exact ⟨k + 1, by omega, by go_num, by rw [Hs.out], Hn.out, hb, bx⟩
        case measure => simp [intOf]; omega
      · have hz' : withinB nd[k] (-12) 12 = false := by simpa using hz
        have Hn : Hid (needsB n ps nd = false) := Lib.hid (needsB_out (by rw [all_no hlt (by simp [hz'])]))
        clear hz
        generalize nd[k] = x at *
        go_wp2_with fail
        refine (l1In_any x _ _ _).mono ?_
        rintro e w1 ⟨rfl, rfl⟩
        rw [hz']
        go_wp2
        go_ret
        exact ⟨ret_bool Hn.out.symm, hb⟩
    · have hkk : k = nd.length := by omega
      subst hkk
      have hall := all_whole hlt Hall.out
      have Ha := Lib.hid hall
      obtain ⟨bs, d0, d1, -, -⟩ := id bx
      clear hall
      by_cases hf : freeB n ps = true
      · by_cases hl : (nd.length : Int) = n
        · have Hr := Lib.hid (needsB_sum hf Ha.out hl)
          have hld : ((nd.length : Int) == n) = true := by rw [beq_dec]; exact decide_eq_true hl
          generalize nsum nd nd.length = sm at *
          clear hl
          go_wp2_with fail
          refine (specFreeOk_any n _ ps b _ (hp0.keep hb)).mono ?_
          rintro e w2 ⟨rfl, hb2⟩
          rw [hf]
          have bx2 := bx.keep hb2
          have hB2 := hb.trans (hb2.mono hzb)
          clear d0 d1 bs bx
          obtain ⟨bs, d0, d1, -, -⟩ := id bx2
          go_wp2
          go_ret
          exact ⟨ret_bool Hr.out.symm, hB2⟩
        · have Hr := Lib.hid (needsB_len (ps := ps) hl)
          have hld : ((nd.length : Int) == n) = false := by rw [beq_dec]; exact decide_eq_false hl
          clear hl
          go_wp2_with fail
          refine (specFreeOk_any n _ ps b _ (hp0.keep hb)).mono ?_
          rintro e w2 ⟨rfl, hb2⟩
          rw [hf]
          have bx2 := bx.keep hb2
          have hB2 := hb.trans (hb2.mono hzb)
          clear d0 d1 bs bx
          obtain ⟨bs, d0, d1, -, -⟩ := id bx2
          go_wp2
          go_ret
          exact ⟨ret_bool Hr.out.symm, hB2⟩
      · have hf' : freeB n ps = false := by simpa using hf
        have Hr := Lib.hid (needsB_free (nd := nd) hf')
        clear hf
        go_wp2_with fail
        refine (specFreeOk_any n _ ps b _ (hp0.keep hb)).mono ?_
        rintro e w2 ⟨rfl, hb2⟩
        rw [hf']
        go_wp2
        go_ret
        exact ⟨ret_bool Hr.out.symm, hb.trans (hb2.mono hzb)⟩

set_option maxHeartbeats 2000000 in
set_option maxRecDepth 20000 in
theorem specFeedsOk_any (n : Int) (v u o : Value) (ps : List Pp) (xs nd : List Int) (b b' b2 : Nat) (w : World) (hp : Pipes w b v ps) (hx : Ints w b' u xs) (ho : Ints w b2 o nd) :
    Calls Try.prog 39 #[.agg #[.int .i64 n, v], u, o] w fun e w' => e = .returned (.bool (feedsB n ps xs nd)) ∧ Below w.heap.size w w' := by
  have hp0 := hp
  have hx0 := hx
  have ho0 := ho
  obtain ⟨A, c, rfl, -, -, -, -⟩ := hp.form
  obtain ⟨A', c', rfl, -, -, -, -⟩ := hx.form
  obtain ⟨A2, c2, rfl, hc21, hc22, -, hcell2⟩ := ho.form
  unfold maxLen at hc22
  have bx0 := Box2.new w (.int .i64 n) (.slice A ps.length c) 25
  have hB0 : Below w.heap.size w (w.alloc (.cells #[.int .i64 n, .slice A ps.length c] 25)) := by (repeat (first | (with_reducible assumption) | (with_reducible exact Below.refl _ _) | ((with_reducible refine Below.alloc ?_ ?hsz _); (case hsz => (first | omega | (simp; done) | (simp; omega) | (simp at *; omega)))) | ((with_reducible refine Below.setCell ?_ ?hsz _); (case hsz => (first | omega | (simp; done) | (simp; omega) | (simp at *; omega)))) | (with_reducible refine Below.drew ?_) | (with_reducible refine below_drewN ?_ _) | ((with_reducible refine Below.trans ?_ (Below.mono (by with_reducible assumption) ?hsz)); (case hsz => (first | omega | (simp; done) | (simp; omega) | (simp at *; omega))))))
  by_cases hh : holdsB n ps xs = true
  · by_cases hn : needsB n ps nd = true
    · have Hr : Hid (feedsB n ps xs nd = (List.range nd.length).all fun v => dN nd ps xs v == 0) := Lib.hid (by
        have e : n.toNat = nd.length := by have := (needs_parts hn).2.1; omega
        rw [feedsB, hh, hn, zeroD, e]; rfl)
      have Hf := Lib.hid (holds_parts hh).1
      have h5 : nd.length ≤ 5 := by have := (needs_parts hn).2.1; have := (netOk_parts (holds_net hh)).2.1; omega
      go_enter Try.func39, Try.ntmps39
      go_wp2_with fail
      refine (specHoldsOk_any n _ _ ps xs b b' _ (hp0.keep hB0) (hx0.keep hB0)).mono ?_
      rintro e w1 ⟨rfl, hb1⟩
      rw [hh]
      have bx1 := bx0.keep hb1
      have hB1 := hB0.trans (hb1.mono hB0.size)
      clear bx0 hB0
      obtain ⟨bs, d0, d1, -, -⟩ := id bx1
      go_wp2_with fail
      refine (specNeedsOk_any n _ _ ps nd b b2 _ (hp0.keep hB1) (ho0.keep hB1)).mono ?_
      rintro e w2 ⟨rfl, hb2⟩
      rw [hn]
      have bx2 := bx1.keep hb2
      have hB2 := hB1.trans (hb2.mono hB1.size)
      clear d0 d1 bs bx1 hb1 hb2 hB1 hh hn
      obtain ⟨bs, d0, d1, -, -⟩ := id bx2
      go_wp2_with fail
      go_loopw [7] (fun i wr => ∃ k : Nat, k ≤ nd.length ∧ i = .int .i64 k ∧ (∀ x ∈ (List.range nd.length).take k, (fun v : Nat => dN nd ps xs v == 0) x = true) ∧ Below w.heap.size w wr ∧ Box2 wr w.heap.size (.int .i64 n) (.slice A ps.length c)) (fun i _ => nd.length - (intOf i).toNat)
      case atStart => exact ⟨0, by omega, rfl, by simp, hB2, bx2⟩
      case round =>
        clear d0 d1 bs bx2 hB2
        obtain ⟨k, hk, rfl, hall, hb, bx⟩ := hrel
        have Hall := Lib.hid hall
        clear hall
        obtain ⟨bs, d0, d1, -, -⟩ := id bx
        have hzb := hb.size
        by_cases hlt : k < nd.length
        · obtain ⟨g, rfl, hg1, hg2, c0, -⟩ := hcell2 wr hb k hlt
          have HD : Hid (dN nd ps xs k = exc (k : Int) ps xs - nd[k]) := Lib.hid (by unfold dN; rw [getD_at hlt])
          obtain ⟨E, hE⟩ : ∃ E, exc (k : Int) ps xs = E := ⟨_, rfl⟩
          rw [hE] at HD
          have HC : Hid (∀ p : Bw wr, Calls Try.prog 49 #[.agg #[.int .i64 n, .slice A ps.length c], .slice A' xs.length c', .int .i64 k] p.v fun e w' => e = .returned (.int .i64 E) ∧ Below p.v.heap.size p.v w') := Lib.hid fun p => by
            rw [← hE]
            exact specExcess_any k n _ _ ps xs b b' _ ((hp0.keep hb).keep p.h) ((hx0.keep hb).keep p.h) Hf.out
          generalize nd[k] = d at *
          have hd0 := fun p : Bw wr => (bw_cell p bs).trans d0
          have hd1 := fun p : Bw wr => (bw_cell p bs).trans d1
          have hd2 := fun p : Bw wr => (bw_cell p (show g < wr.heap.size by omega)).trans c0
          clear hE
          go_wp2_with fail
          refine wp_region_bw (by kernel_rfl) (by kernel_rfl) ?_
          repeat (go_big_quiet_step ((go_at_call 49; refine calls_bw (HC.out _))))
          refine wpQuiet_nil ?_
          rintro _ ⟨pw, rfl⟩
          have hpw := pw.h
          have bx2 := bx.keep hpw
          have hb2 := hb.trans (hpw.mono hzb)
          obtain ⟨wq, hwq⟩ : ∃ wq, wq = pw.v := ⟨_, rfl⟩
          rw [← hwq] at bx2 hb2 ⊢
          clear hd0 hd1 hd2 hwq hpw c0 d0 d1 bs bx hb
          obtain ⟨bs, d0, d1, -, -⟩ := id bx2
          by_cases hz : E = d
          · have hz2 : (E != d) = false := by simp [hz]
            have Hn := Lib.hid (all_take (xs := List.range nd.length) (k := k) (f := fun v : Nat => dN nd ps xs v == 0) (by simpa using hlt) Hall.out (by rw [List.getElem_range, HD.out, beq_iff_eq]; omega))
            clear hz
            go_wp2
            go_roundw
            case rel => exact ⟨k + 1, by omega, by go_num, Hn.out, hb2, bx2⟩
            case measure => simp [intOf]; omega
          · have hz2 : (E != d) = true := by simpa using hz
            have Hn : Hid (((List.range nd.length).all fun v => dN nd ps xs v == 0) = false) := Lib.hid (all_no (xs := List.range nd.length) (k := k) (by simpa using hlt) (by simpa [HD.out, Int.sub_eq_zero] using hz))
            clear hz
            go_wp2
            go_ret
            exact ⟨ret_bool (by rw [Hr.out, Hn.out]), hb2⟩
        · have Hn : Hid (((List.range nd.length).all fun v => dN nd ps xs v == 0) = true) := Lib.hid (all_whole (xs := List.range nd.length) (k := k) (by simpa using hlt) Hall.out)
          go_wp2
          go_ret
          exact ⟨ret_bool (by rw [Hr.out, Hn.out]), hb⟩
    · have hn' : needsB n ps nd = false := by simpa using hn
      have Hr : Hid (feedsB n ps xs nd = false) := Lib.hid (by rw [feedsB, hn']; simp)
      clear hn
      go_enter Try.func39, Try.ntmps39
      go_wp2_with fail
      refine (specHoldsOk_any n _ _ ps xs b b' _ (hp0.keep hB0) (hx0.keep hB0)).mono ?_
      rintro e w1 ⟨rfl, hb1⟩
      rw [hh]
      have bx1 := bx0.keep hb1
      have hB1 := hB0.trans (hb1.mono hB0.size)
      clear bx0 hB0
      obtain ⟨bs, d0, d1, -, -⟩ := id bx1
      go_wp2_with fail
      refine (specNeedsOk_any n _ _ ps nd b b2 _ (hp0.keep hB1) (ho0.keep hB1)).mono ?_
      rintro e w2 ⟨rfl, hb2⟩
      rw [hn']
      go_wp2
      go_ret
      exact ⟨ret_bool Hr.out.symm, hB1.trans (hb2.mono hB1.size)⟩
  · have hh' : holdsB n ps xs = false := by simpa using hh
    have Hr : Hid (feedsB n ps xs nd = false) := Lib.hid (by rw [feedsB, hh']; rfl)
    clear hh
    go_enter Try.func39, Try.ntmps39
    go_wp2_with fail
    refine (specHoldsOk_any n _ _ ps xs b b' _ (hp0.keep hB0) (hx0.keep hB0)).mono ?_
    rintro e w1 ⟨rfl, hb1⟩
    rw [hh']
    go_wp2
    go_ret
    exact ⟨ret_bool Hr.out.symm, hB0.trans (hb1.mono hB0.size)⟩

end Go.Proofs.Ytphbmlephldaaaa
