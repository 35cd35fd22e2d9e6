/- Contracts of what the exact laws call: rows of rows of numbers. -/
import Derived.Test.YtlaeckjfjleplaaG6
import Derived.Test.YtlaeckjfjleplaaE2
import Derived.Test.YtlaeckjfjleplaaE4
import Derived.Test.YtlaeckjfjleplaaR
namespace Go.Proofs.Ytlaeckjfjleplaa
open Go.RowKit

def upRows (m : Int) (Ls : List (List Int)) : List (List Int) := (List.range Ls.length).map fun j => upFrom (m + off Ls j) (Ls.getD j []).length
theorem upRows_len (m : Int) (Ls : List (List Int)) : (upRows m Ls).length = Ls.length := by simp [upRows]
theorem upRows_at (m : Int) {Ls : List (List Int)} {k : Nat} (h : k < Ls.length) (h' : k < (upRows m Ls).length) : (upRows m Ls)[k] = upFrom (m + off Ls k) Ls[k].length := by
  simp [upRows, List.getD_eq_getElem?_getD, h]

set_option maxHeartbeats 1000000 in
set_option maxRecDepth 20000 in
theorem eqIntSS_any (v u : Value) (Ls Ms : List (List Int)) (b b' t t' : Nat) (w : World) (hx : RowsB w b t v Ls) (hy : RowsB w b' t' u Ms) :
    Calls Try.prog 36 #[v, u] w fun e w' => e = .returned (.bool (decide (Ls = Ms))) ∧ Below w.heap.size w w' := by
  obtain ⟨A, c, rfl, hc1, hc2, hs, hcell⟩ := hx.form
  obtain ⟨A', c', rfl, hc1', hc2', hs', hcell'⟩ := hy.form
  unfold maxLen at hc2 hc2'
  by_cases hl : Ls.length = Ms.length
  · have h0 : ((Ls.length : Int) != (Ms.length : Int)) = false := by simp [hl]
    have Hl := Lib.hid hl
    clear hl
    go_enter Try.func36, Try.ntmps36
    go_wp2
    go_loopw [5] (fun i wr => ∃ k : Nat, k ≤ Ls.length ∧ i = .int .i64 k ∧ Ls.take k = Ms.take k ∧ Below w.heap.size w wr) (fun i _ => Ls.length - (intOf i).toNat)
    case atStart => exact ⟨0, by omega, rfl, by simp, by (repeat (first | (with_reducible assumption) | (with_reducible exact Below.refl _ _) | ((with_reducible refine Below.alloc ?_ ?hsz _); (case hsz => (first | omega | (simp; done) | (simp; omega) | (simp at *; omega)))) | ((with_reducible refine Below.setCell ?_ ?hsz _); (case hsz => (first | omega | (simp; done) | (simp; omega) | (simp at *; omega)))) | (with_reducible refine Below.drew ?_) | (with_reducible refine below_drewN ?_ _) | ((with_reducible refine Below.trans ?_ (Below.mono (by with_reducible assumption) ?hsz)); (case hsz => (first | omega | (simp; done) | (simp; omega) | (simp at *; omega))))))⟩
    case round =>
      obtain ⟨k, hk, rfl, hall, hb⟩ := hrel
      have Hall := Lib.hid hall
      clear hall
      by_cases hlt : k < Ls.length
      · have hlq : k < Ms.length := by have := Hl.out; omega
        obtain ⟨g, vk, rfl, hg1, hg2, c0, hi⟩ := hcell wr hb k hlt
        obtain ⟨g', vk', rfl, hg1', hg2', d0, hi'⟩ := hcell' wr hb k hlq
        have hzr := hb.size
        have hgr : g < wr.heap.size := by omega
        have hgr' : g' < wr.heap.size := by omega
        have hd0 := fun p : Bw wr => (bw_cell p hgr).trans c0
        have hd1 := fun p : Bw wr => (bw_cell p hgr').trans d0
        go_wp2
        refine wp_region_bw (by kernel_rfl) (by kernel_rfl) ?_
        repeat (go_big_quiet_step ((go_at_call 38; refine calls_bw (eqIntS_any vk vk' Ls[k] Ms[k] _ _ _ (hi.keep (Bw.h _)) (hi'.keep (Bw.h _))))))
        refine wpQuiet_nil ?_
        rintro _ ⟨pw, rfl⟩
        have hbq := hb.trans (pw.h.mono hzr)
        obtain ⟨w4, hw4⟩ : ∃ w4, w4 = pw.v := ⟨_, rfl⟩
        rw [← hw4] at hbq ⊢
        clear hw4 hd0 hd1 c0 d0
        go_wp2
        · have h1 : decide (Ls[k] = Ms[k]) = false := of_not_t (by assumption)
          have h2 := of_decide_eq_false h1
          go_ret
          exact ⟨ret_bool (by
            symm; rw [decide_eq_false_iff_not]
            intro h; subst h; exact h2 rfl), by (repeat (first | (with_reducible assumption) | (with_reducible exact Below.refl _ _) | ((with_reducible refine Below.alloc ?_ ?hsz _); (case hsz => (first | omega | (simp; done) | (simp; omega) | (simp at *; omega)))) | ((with_reducible refine Below.setCell ?_ ?hsz _); (case hsz => (first | omega | (simp; done) | (simp; omega) | (simp at *; omega)))) | (with_reducible refine Below.drew ?_) | (with_reducible refine below_drewN ?_ _) | ((with_reducible refine Below.trans ?_ (Below.mono (by with_reducible assumption) ?hsz)); (case hsz => (first | omega | (simp; done) | (simp; omega) | (simp at *; omega))))))⟩
        · have h1 : decide (Ls[k] = Ms[k]) = true := of_not (by assumption)
          have h2 : Ls[k] = Ms[k] := of_decide_eq_true h1
          have h3 : Ls.take (k + 1) = Ms.take (k + 1) := by rw [List.take_succ_eq_append_getElem hlt, List.take_succ_eq_append_getElem hlq, Hall.out, h2]
          clear h2
          go_roundw
          case rel => exact ⟨k + 1, by omega, by go_num, h3, by (repeat (first | (with_reducible assumption) | (with_reducible exact Below.refl _ _) | ((with_reducible refine Below.alloc ?_ ?hsz _); (case hsz => (first | omega | (simp; done) | (simp; omega) | (simp at *; omega)))) | ((with_reducible refine Below.setCell ?_ ?hsz _); (case hsz => (first | omega | (simp; done) | (simp; omega) | (simp at *; omega)))) | (with_reducible refine Below.drew ?_) | (with_reducible refine below_drewN ?_ _) | ((with_reducible refine Below.trans ?_ (Below.mono (by with_reducible assumption) ?hsz)); (case hsz => (first | omega | (simp; done) | (simp; omega) | (simp at *; omega))))))⟩
          case measure => simp [intOf]; omega
      · go_wp2
        go_ret
        have : Ls = Ms := by
          have h := Hall.out
          rw [List.take_of_length_le (by omega), List.take_of_length_le (by have := Hl.out; omega)] at h
          exact h
        exact ⟨ret_bool (by simp [this]), by (repeat (first | (with_reducible assumption) | (with_reducible exact Below.refl _ _) | ((with_reducible refine Below.alloc ?_ ?hsz _); (case hsz => (first | omega | (simp; done) | (simp; omega) | (simp at *; omega)))) | ((with_reducible refine Below.setCell ?_ ?hsz _); (case hsz => (first | omega | (simp; done) | (simp; omega) | (simp at *; omega)))) | (with_reducible refine Below.drew ?_) | (with_reducible refine below_drewN ?_ _) | ((with_reducible refine Below.trans ?_ (Below.mono (by with_reducible assumption) ?hsz)); (case hsz => (first | omega | (simp; done) | (simp; omega) | (simp at *; omega))))))⟩
  · have h0 : ((Ls.length : Int) != (Ms.length : Int)) = true := by rw [bne_iff_ne]; omega
    have hne : decide (Ls = Ms) = false := by
      rw [decide_eq_false_iff_not]
      intro h; exact hl (by rw [h])
    have Hne := Lib.hid hne
    clear hl hne
    go_enter Try.func36, Try.ntmps36
    go_wp2
    go_ret
    exact ⟨ret_bool Hne.out.symm, by (repeat (first | (with_reducible assumption) | (with_reducible exact Below.refl _ _) | ((with_reducible refine Below.alloc ?_ ?hsz _); (case hsz => (first | omega | (simp; done) | (simp; omega) | (simp at *; omega)))) | ((with_reducible refine Below.setCell ?_ ?hsz _); (case hsz => (first | omega | (simp; done) | (simp; omega) | (simp at *; omega)))) | (with_reducible refine Below.drew ?_) | (with_reducible refine below_drewN ?_ _) | ((with_reducible refine Below.trans ?_ (Below.mono (by with_reducible assumption) ?hsz)); (case hsz => (first | omega | (simp; done) | (simp; omega) | (simp at *; omega))))))⟩

set_option maxHeartbeats 1000000 in
set_option maxRecDepth 20000 in
theorem markIntSS_any (v : Value) (Ls : List (List Int)) (m : Int) (b t : Nat) (w : World) (hx : RowsM w b t v Ls) (hbt : b ≤ w.heap.size) (hN : off Ls Ls.length ≤ 1000000) (h0 : 0 ≤ m) (h1 : m ≤ 900000000) :
    Calls Try.prog 41 #[v, .int .i64 m] w fun e w' => e = .returned (.int .i64 (m + off Ls Ls.length)) ∧ RowsM w' b t v (upRows m Ls) ∧ Below b w w' := by
  obtain ⟨A, c, rfl, hc1, hc2, hs, -⟩ := hx.toB.form
  obtain ⟨vs, hvl, hown, -, htop, hrows, hap⟩ := hx
  unfold maxLen at hc2
  have HB := Lib.hid (And.intro hN (And.intro h1 (And.intro hvl (And.intro htop (And.intro hrows hap)))))
  have hzz : ∀ k, k < Ls.length → k < vs.length := fun k hk => by omega
  clear hN h1 hvl htop hrows hap
  go_enter Try.func41, Try.ntmps41
  go_wp2
  go_loopw [5, 1] (fun i t wr => ∃ (k : Nat), k ≤ Ls.length ∧ i = .int .i64 k ∧ t = .int .i64 (m + off Ls k) ∧
      wr.ownsRow b 26 1 (.slice A Ls.length c) Ls.length vs ∧ (∀ j (hj : j < Ls.length) (hj' : j < vs.length), Ints wr b vs[j] (if j < k then upFrom (m + off Ls j) Ls[j].length else Ls[j])) ∧ Below b w wr) (fun i _ _ => Ls.length - (intOf i).toNat)
  case atStart => exact ⟨0, by omega, rfl, by simp [off], hown, fun j hj hj' => by rw [if_neg (by omega)]; exact (HB.out.2.2.2.2.1 j hj hj').1, Below.refl _ _⟩
  case round =>
    obtain ⟨k, hk, rfl, rfl, ho, hrw, hB⟩ := hrel
    have HR := Lib.hid hrw
    clear hrw
    by_cases hlt : k < Ls.length
    · have hkv := hzz k hlt
      obtain ⟨A0, c0, hA0, -, -, hcc⟩ := own_form ho
      obtain ⟨g, hA, hg1, hg2, d0, d1⟩ := hcc k vs[k] (by simp [hkv])
      cases hA0
      subst hA
      have hik := HR.out k hlt hkv
      rw [if_neg (by omega)] at hik
      have hoff := off_succ hlt
      have hmo : off Ls (k + 1) ≤ off Ls Ls.length := off_mono (by omega)
      have hN := HB.out.1
      have h1 := HB.out.2.1
      have hm0 : 0 ≤ m + (off Ls k : Int) := by omega
      have hm1 : m + (off Ls k : Int) ≤ 1000000000 := by omega
      have hm2 : m + (off Ls k : Int) + (Ls[k].length : Int) ≤ 1000000000 := by omega
      have HO := Lib.hid hoff
      clear hoff hmo hN h1 hcc
      generalize hvk : vs[k] = vk at *
      go_wp2_with fail
      refine (markIntS_any _ Ls[k] (m + off Ls k) b _ (hik.keep (by (repeat (first | (with_reducible assumption) | (with_reducible exact Below.refl _ _) | ((with_reducible refine Below.alloc ?_ ?hsz _); (case hsz => (first | omega | (simp; done) | (simp; omega) | (simp at *; omega)))) | ((with_reducible refine Below.setCell ?_ ?hsz _); (case hsz => (first | omega | (simp; done) | (simp; omega) | (simp at *; omega)))) | (with_reducible refine Below.drew ?_) | (with_reducible refine below_drewN ?_ _) | ((with_reducible refine Below.trans ?_ (Below.mono (by with_reducible assumption) ?hsz)); (case hsz => (first | omega | (simp; done) | (simp; omega) | (simp at *; omega)))))))) hm0 hm1).mono ?_
      rintro e w1 ⟨rfl, hi1, hg⟩
      have hbz := hB.size
      have hrows : ∀ j (hj : j < Ls.length) (hj' : j < vs.length), Ints w1 b vs[j] (if j < k + 1 then upFrom (m + off Ls j) Ls[j].length else Ls[j]) := by
        intro j hj hj'
        by_cases hjk : j = k
        · subst hjk
          rw [if_pos (by omega), hvk]
          exact hi1
        · have h := HR.out j hj hj'
          have e : (if j < k + 1 then upFrom (m + off Ls j) Ls[j].length else Ls[j]) = (if j < k then upFrom (m + off Ls j) Ls[j].length else Ls[j]) := by
            by_cases h1 : j < k
            · rw [if_pos h1, if_pos (by omega)]
            · rw [if_neg h1, if_neg (by omega)]
          rw [e]
          refine ⟨h.1.kept hg ?_, h.2⟩
          rw [← hvk]
          rcases Nat.lt_or_gt_of_ne hjk with h1 | h1
          · exact HB.out.2.2.2.2.2 j k h1 hkv
          · rcases HB.out.2.2.2.2.2 k j h1 hj' with h2 | h2
            · rw [h2]
              cases h3 : vs[j].ownBlock with
              | none => exact .inl rfl
              | some q => exact .inr (by simp)
            · exact .inr (fun h3 => h2 h3.symm)
      have hB1 : Below b w w1 := Below.grown hB hg (by omega) (fun q hq => (hik.1.lt q hq).1)
      have ho1 := own_beside ho hik hg
      have HR1 := Lib.hid hrows
      clear hrows ho hB hg hi1 hik
      go_wp2
      go_roundw
      case rel => exact ⟨k + 1, by omega, by go_num, by rw [HO.out]; congr 1; push_cast; omega, ho1, HR1.out, hB1⟩
      case measure => simp [intOf]; omega
    · go_wp2
      go_ret
      have hk2 : k = Ls.length := by omega
      subst hk2
      refine ⟨rfl, ⟨vs, by rw [upRows_len]; exact HB.out.2.2.1, by rw [upRows_len]; exact ho, by rw [upRows_len]; exact hs, HB.out.2.2.2.1, fun j hj hj' => ?_, HB.out.2.2.2.2.2⟩, hB⟩
      rw [upRows_len] at hj
      have h := HR.out j hj hj'
      rw [if_pos hj] at h
      rw [upRows_at m hj]
      exact ⟨h, (HB.out.2.2.2.2.1 j hj hj').2⟩

set_option maxHeartbeats 1000000 in
set_option maxRecDepth 20000 in
theorem heldIntSS_any (v : Value) (Ls : List (List Int)) (m : Int) (b t : Nat) (w : World) (hx : RowsB w b t v (upRows m Ls)) (hN : off Ls Ls.length ≤ 1000000) (h0 : 0 ≤ m) (h1 : m ≤ 900000000) :
    Calls Try.prog 42 #[v, .int .i64 m] w fun e w' => e = .returned (.int .i64 (m + off Ls Ls.length)) ∧ w = w' := by
  obtain ⟨A, c, rfl, hc1, hc2, hs, hcell⟩ := hx.form
  unfold maxLen at hc2
  rw [upRows_len] at hc1 hs
  have hcell2 : ∀ k (hk : k < Ls.length), ∃ g vk, A = some ⟨g, 0, none⟩ ∧ w.cell? ⟨g, k, none⟩ = some vk ∧ Ints w b vk (upFrom (m + off Ls k) Ls[k].length) := by
    intro k hk
    obtain ⟨g, vk, hA, -, -, c0, hi⟩ := hcell w (Below.refl _ _) k (by rw [upRows_len]; exact hk)
    rw [upRows_at m hk] at hi
    exact ⟨g, vk, hA, c0, hi⟩
  rw [upRows_len]
  clear hcell
  have HB := Lib.hid (And.intro hN h1)
  clear hN h1
  go_enter Try.func42, Try.ntmps42
  go_wp2
  go_loop [5, 1] (fun i t => ∃ k : Nat, k ≤ Ls.length ∧ i = .int .i64 k ∧ t = .int .i64 (m + off Ls k)) (fun i _ => Ls.length - (intOf i).toNat)
  case atStart => exact ⟨0, by omega, rfl, by simp [off]⟩
  case round =>
    obtain ⟨k, hk, rfl, rfl⟩ := hrel
    by_cases hlt : k < Ls.length
    · obtain ⟨g, vk, rfl, c0, hi⟩ := hcell2 k hlt
      have hoff := off_succ hlt
      have hmo : off Ls (k + 1) ≤ off Ls Ls.length := off_mono (by omega)
      have hN := HB.out.1
      have h1 := HB.out.2
      have hm0 : 0 ≤ m + (off Ls k : Int) := by omega
      have hm1 : m + (off Ls k : Int) ≤ 1000000000 := by omega
      have hm2 : 0 ≤ m + (off Ls k : Int) + (Ls[k].length : Int) := by omega
      have HO := Lib.hid hoff
      clear hoff hmo hN h1
      go_wp2_with fail
      refine (heldIntS_any _ Ls[k].length (m + off Ls k) b _ hi hm0 hm1).mono ?_
      rintro e w1 ⟨rfl, rfl⟩
      go_wp2
      go_round
      case rel => exact ⟨k + 1, by omega, by go_num, by rw [HO.out]; congr 1; push_cast; omega⟩
      case measure => simp [intOf]; omega
    · have hk2 : k = Ls.length := by omega
      subst hk2
      go_wp2
      go_ret
      exact ⟨rfl, rfl⟩

end Go.Proofs.Ytlaeckjfjleplaa
