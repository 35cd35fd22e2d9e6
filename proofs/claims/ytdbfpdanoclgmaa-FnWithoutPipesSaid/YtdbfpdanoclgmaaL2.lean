/- What the laws of promises call: equality of nets. -/
import Derived.Test.YtdbfpdanoclgmaaL1
import Derived.Laws.StructEq
namespace Go.Proofs.Ytdbfpdanoclgmaa
open Go.RowKit

theorem eqPipes_run (p q : Pp) (w : World) : (Op.equalIn 10000 59 (.agg #[.int .i64 p.fr, .int .i64 p.to, .int .i64 p.le, .int .i64 p.mo, .int .i64 p.co]) (.agg #[.int .i64 q.fr, .int .i64 q.to, .int .i64 q.le, .int .i64 q.mo, .int .i64 q.co])).run Try.prog w = .ok (eqPp p q) w := by
  have hS : Try.prog.underlying 59 = some (.struct (Try.prog.fieldsOf 59)) := by kernel_rfl
  have u3 := Try.underlying3
  have a3 := Try.isAgg3
  have z3 := Try.sizeOf3
  rw [show (10000 : Nat) = 9999 + 1 from rfl, run_equalIn_agg w 9999 59 _ _ hS (by kernel_rfl)]
  simp only [Program.fieldsOf, Try.underlying59]
  go_simp
  obtain ⟨a, b, c, d, e⟩ := p
  obtain ⟨a', b', c', d', e'⟩ := q
  simp only [eqPp]
  by_cases h1 : a = a' <;> by_cases h2 : b = b' <;> by_cases h3 : c = c' <;> by_cases h4 : d = d' <;> by_cases h5 : e = e' <;> simp [h1, h2, h3, h4, h5]

set_option maxRecDepth 20000 in
set_option maxHeartbeats 1000000 in
set_option maxRecDepth 20000 in
theorem sameNet_any (n m : Int) (v u : Value) (ps qs : List Pp) (b b' : Nat) (w : World) (hp : Pipes w b v ps) (hq : Pipes w b' u qs) :
    Calls Try.prog 25 #[.agg #[.int .i64 n, v], .agg #[.int .i64 m, u]] w fun e w' => e = .returned (.bool (decide (n = m ∧ ps = qs))) ∧ Below w.heap.size w w' := by
  obtain ⟨A, c, rfl, hc1, hc2, hs, hcell⟩ := hp.form
  obtain ⟨A', c', rfl, hc1', hc2', hs', hcell'⟩ := hq.form
  unfold maxLen at hc2 hc2'
  by_cases hn : n = m
  · by_cases hl : ps.length = qs.length
    · have h0 : ((ps.length : Int) != (qs.length : Int)) = false := by simp [hl]
      have hn0 : (n != m) = false := by simp [hn]
      have Hl := Lib.hid hl
      have Hn := Lib.hid hn
      clear hl hn
      go_enter Try.func25, Try.ntmps25
      go_wp2
      go_loopw [5] (fun i wr => ∃ k : Nat, k ≤ ps.length ∧ i = .int .i64 k ∧ ps.take k = qs.take k ∧ Below w.heap.size w wr ∧ Box2 wr w.heap.size (.int .i64 n) (.slice A ps.length c) ∧ Box2 wr (w.heap.size + 1) (.int .i64 m) (.slice A' qs.length c')) (fun i _ => ps.length - (intOf i).toNat)
      case atStart => exact ⟨0, by omega, rfl, by simp, by (repeat (first | (with_reducible assumption) | (with_reducible exact Below.refl _ _) | ((with_reducible refine Below.alloc ?_ ?hsz _); (case hsz => (first | omega | (simp; done) | (simp; omega) | (simp at *; omega)))) | ((with_reducible refine Below.setCell ?_ ?hsz _); (case hsz => (first | omega | (simp; done) | (simp; omega) | (simp at *; omega)))) | (with_reducible refine Below.drew ?_) | (with_reducible refine below_drewN ?_ _) | ((with_reducible refine Below.trans ?_ (Below.mono (by with_reducible assumption) ?hsz)); (case hsz => (first | omega | (simp; done) | (simp; omega) | (simp at *; omega)))))), (Box2.new w _ _ _).keep (by (repeat (first | (with_reducible assumption) | (with_reducible exact Below.refl _ _) | ((with_reducible refine Below.alloc ?_ ?hsz _); (case hsz => (first | omega | (simp; done) | (simp; omega) | (simp at *; omega)))) | ((with_reducible refine Below.setCell ?_ ?hsz _); (case hsz => (first | omega | (simp; done) | (simp; omega) | (simp at *; omega)))) | (with_reducible refine Below.drew ?_) | (with_reducible refine below_drewN ?_ _) | ((with_reducible refine Below.trans ?_ (Below.mono (by with_reducible assumption) ?hsz)); (case hsz => (first | omega | (simp; done) | (simp; omega) | (simp at *; omega))))))), by
        have h := Box2.new (w.alloc (.cells #[.int .i64 n, .slice A ps.length c] 28)) (.int .i64 m) (.slice A' qs.length c') 28
        rw [World.size_alloc] at h
        exact h⟩
      case round =>
        obtain ⟨k, hk, rfl, hall, hb, bx, by'⟩ := hrel
        have Hall := Lib.hid hall
        clear hall
        obtain ⟨bs, b0, b1, -, -⟩ := id bx
        obtain ⟨ys, y0, y1, -, -⟩ := id by'
        by_cases hlt : k < ps.length
        · have hlq : k < qs.length := by have := Hl.out; omega
          obtain ⟨g, rfl, hg1, hg2, c0, c1, c2, c3, c4⟩ := hcell wr hb k hlt
          obtain ⟨g', rfl, hg1', hg2', d0, d1, d2, d3, d4⟩ := hcell' wr hb k hlq
          have hgr : g < wr.heap.size := by omega
          have hgr' : g' < wr.heap.size := by omega
          have heq := fun w => eqPipes_run ps[k] qs[k] w
          have hgd : Try.prog.eqGuardType Try.prog.depth 59 = false := by kernel_rfl
          go_wp2
          go_quiet (fail)
          go_wp2
          · have h1 : eqPp ps[k] qs[k] = false := of_not_t (by assumption)
            go_ret
            exact ⟨ret_bool (by
              symm; rw [decide_eq_false_iff_not]
              rintro ⟨-, h⟩; subst h; simp [eqPp] at h1), by (repeat (first | (with_reducible assumption) | (with_reducible exact Below.refl _ _) | ((with_reducible refine Below.alloc ?_ ?hsz _); (case hsz => (first | omega | (simp; done) | (simp; omega) | (simp at *; omega)))) | ((with_reducible refine Below.setCell ?_ ?hsz _); (case hsz => (first | omega | (simp; done) | (simp; omega) | (simp at *; omega)))) | (with_reducible refine Below.drew ?_) | (with_reducible refine below_drewN ?_ _) | ((with_reducible refine Below.trans ?_ (Below.mono (by with_reducible assumption) ?hsz)); (case hsz => (first | omega | (simp; done) | (simp; omega) | (simp at *; omega))))))⟩
          · have h1 : eqPp ps[k] qs[k] = true := of_not (by assumption)
            have h2 : ps[k] = qs[k] := by simpa [eqPp] using h1
            have h3 : ps.take (k + 1) = qs.take (k + 1) := by rw [List.take_succ_eq_append_getElem hlt, List.take_succ_eq_append_getElem hlq, Hall.out, h2]
            clear h2
            go_roundw
            case rel => exact ⟨k + 1, by omega, by go_num, h3, by (repeat (first | (with_reducible assumption) | (with_reducible exact Below.refl _ _) | ((with_reducible refine Below.alloc ?_ ?hsz _); (case hsz => (first | omega | (simp; done) | (simp; omega) | (simp at *; omega)))) | ((with_reducible refine Below.setCell ?_ ?hsz _); (case hsz => (first | omega | (simp; done) | (simp; omega) | (simp at *; omega)))) | (with_reducible refine Below.drew ?_) | (with_reducible refine below_drewN ?_ _) | ((with_reducible refine Below.trans ?_ (Below.mono (by with_reducible assumption) ?hsz)); (case hsz => (first | omega | (simp; done) | (simp; omega) | (simp at *; omega)))))), bx, by'⟩
            case measure => simp [intOf]; omega
        · go_wp2
          go_ret
          have hall : ps = qs := by
            have h := Hall.out
            rw [List.take_of_length_le (by omega), List.take_of_length_le (by have := Hl.out; omega)] at h
            exact h
          exact ⟨ret_bool (by simp [Hn.out, hall]), hb⟩
    · have h0 : ((ps.length : Int) != (qs.length : Int)) = true := by rw [bne_iff_ne]; omega
      have hn0 : (n != m) = false := by simp [hn]
      have Hne := Lib.hid (show decide (n = m ∧ ps = qs) = false by
        rw [decide_eq_false_iff_not]
        rintro ⟨-, rfl⟩; exact hl rfl)
      clear hl hn
      go_enter Try.func25, Try.ntmps25
      go_wp2
      go_ret
      exact ⟨ret_bool Hne.out.symm, by (repeat (first | (with_reducible assumption) | (with_reducible exact Below.refl _ _) | ((with_reducible refine Below.alloc ?_ ?hsz _); (case hsz => (first | omega | (simp; done) | (simp; omega) | (simp at *; omega)))) | ((with_reducible refine Below.setCell ?_ ?hsz _); (case hsz => (first | omega | (simp; done) | (simp; omega) | (simp at *; omega)))) | (with_reducible refine Below.drew ?_) | (with_reducible refine below_drewN ?_ _) | ((with_reducible refine Below.trans ?_ (Below.mono (by with_reducible assumption) ?hsz)); (case hsz => (first | omega | (simp; done) | (simp; omega) | (simp at *; omega))))))⟩
  · have h0 : (n != m) = true := by rw [bne_iff_ne]; exact hn
    go_enter Try.func25, Try.ntmps25
    go_wp2
    go_ret
    exact ⟨ret_bool (by simp [hn]), by (repeat (first | (with_reducible assumption) | (with_reducible exact Below.refl _ _) | ((with_reducible refine Below.alloc ?_ ?hsz _); (case hsz => (first | omega | (simp; done) | (simp; omega) | (simp at *; omega)))) | ((with_reducible refine Below.setCell ?_ ?hsz _); (case hsz => (first | omega | (simp; done) | (simp; omega) | (simp at *; omega)))) | (with_reducible refine Below.drew ?_) | (with_reducible refine below_drewN ?_ _) | ((with_reducible refine Below.trans ?_ (Below.mono (by with_reducible assumption) ?hsz)); (case hsz => (first | omega | (simp; done) | (simp; omega) | (simp at *; omega))))))⟩

end Go.Proofs.Ytdbfpdanoclgmaa
