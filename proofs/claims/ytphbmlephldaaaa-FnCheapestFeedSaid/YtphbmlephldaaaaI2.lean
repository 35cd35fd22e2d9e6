/- Contracts of the functions of chapter 6 in the model: costs of steps; what may go on begun steps. -/
import Derived.Test.YtphbmlephldaaaaGN14
import Derived.Test.YtphbmlephldaaaaGN35
import Derived.Test.YtphbmlephldaaaaGN31
import Derived.Test.YtphbmlephldaaaaGN1
import Derived.Test.YtphbmlephldaaaaGN38
namespace Go.Proofs.Ytphbmlephldaaaa
open Go.RowKit

set_option maxHeartbeats 1000000 in
set_option maxRecDepth 20000 in
theorem l6Cost_any (s : Nat) (n : Int) (v : Value) (ps : List Pp) (b : Nat) (w : World) (hp : Pipes w b v ps) (hs : s < 2 * ps.length) (hc : ∀ p ∈ ps, -9 ≤ p.co ∧ p.co ≤ 9) :
    Calls Try.prog 155 #[.agg #[.int .i64 n, v], .int .i64 s] w fun e w' => e = .returned (.int .i64 (stCo ps s)) ∧ Below w.heap.size w w' := by
  obtain ⟨A, c, rfl, hc1, hc2, hsm, hcell⟩ := hp.form
  unfold maxLen at hc2
  obtain ⟨k, hk⟩ : ∃ k, s / 2 = k := ⟨_, rfl⟩
  have hkl : k < ps.length := by omega
  obtain ⟨g, rfl, hg1, hg2, c0, c1, c2, c3, c4⟩ := hcell w (Below.refl _ _) k hkl
  have hq : (s : Int) / 2 = (k : Int) := by omega
  obtain ⟨x0, x1⟩ := hc _ (List.getElem_mem hkl)
  have hget : ps.getD (s / 2) zeroPp = ps[k] := by subst hk; simp [List.getD, List.getElem?_eq_getElem hkl]
  rcases (show s % 2 = 1 ∨ s % 2 = 0 by omega) with hm | hm
  · have He := Lib.hid (show stCo ps s = -ps[k].co by rw [stCo, hget, if_pos hm])
    have hmi : ((s : Int) % 2 == 0) = false := by rw [beq_eq_false_iff_ne]; omega
    clear hk hm hget hc
    go_enter Try.func155, Try.ntmps155
    go_wp2
    go_ret
    exact ⟨ret_int He.out.symm, by (repeat (first | (with_reducible assumption) | (with_reducible exact Below.refl _ _) | ((with_reducible refine Below.alloc ?_ ?hsz _); (case hsz => (first | omega | (simp; done) | (simp; omega) | (simp at *; omega)))) | ((with_reducible refine Below.setCell ?_ ?hsz _); (case hsz => (first | omega | (simp; done) | (simp; omega) | (simp at *; omega)))) | (with_reducible refine Below.drew ?_) | (with_reducible refine below_drewN ?_ _) | ((with_reducible refine Below.trans ?_ (Below.mono (by with_reducible assumption) ?hsz)); (case hsz => (first | omega | (simp; done) | (simp; omega) | (simp at *; omega))))))⟩
  · have He := Lib.hid (show stCo ps s = ps[k].co by rw [stCo, hget, if_neg (by omega)])
    have hmi : ((s : Int) % 2 == 0) = true := by rw [beq_iff_eq]; omega
    clear hk hm hget hc
    go_enter Try.func155, Try.ntmps155
    go_wp2
    go_ret
    exact ⟨ret_int He.out.symm, by (repeat (first | (with_reducible assumption) | (with_reducible exact Below.refl _ _) | ((with_reducible refine Below.alloc ?_ ?hsz _); (case hsz => (first | omega | (simp; done) | (simp; omega) | (simp at *; omega)))) | ((with_reducible refine Below.setCell ?_ ?hsz _); (case hsz => (first | omega | (simp; done) | (simp; omega) | (simp at *; omega)))) | (with_reducible refine Below.drew ?_) | (with_reducible refine below_drewN ?_ _) | ((with_reducible refine Below.trans ?_ (Below.mono (by with_reducible assumption) ?hsz)); (case hsz => (first | omega | (simp; done) | (simp; omega) | (simp at *; omega))))))⟩

def againV (ps : List Pp) (l : List Nat) (a e : Int) (last : Bool) : Bool := match l.getLast? with
  | none => false
  | some t => if stTo ps t = a then
      match l.findIdx? fun q => decide (stFr ps q = e) with
      | none => false
      | some k => !last || decide (0 < k)
    else true

theorem again_eq (ps : List Pp) (l : List Nat) (s : Nat) (last : Bool) : againB ps l s last = againV ps l (stFr ps s) (stTo ps s) last := rfl

theorem againV_nil (ps : List Pp) (a e : Int) (last : Bool) : againV ps [] a e last = false := rfl
theorem againV_last {ps : List Pp} {l : List Nat} {a e : Int} {last : Bool} {M : Nat} (hM : M < l.length) (hl : l.length = M + 1) : againV ps l a e last = if stTo ps l[M] = a then (match l.findIdx? fun q => decide (stFr ps q = e) with | none => false | some k => !last || decide (0 < k)) else true := by
  have : l.getLast? = some l[M] := by rw [List.getLast?_eq_getElem?, List.getElem?_eq_getElem (by omega)]; congr 1; congr 1; omega
  simp [againV, this]

set_option maxHeartbeats 4000000 in
set_option maxRecDepth 20000 in
theorem again_any (n a e : Int) (last : Bool) (v u u1 : Value) (l : List Nat) (ps : List Pp) (xs : List Int) (b b' b1 : Nat) (w : World) (hp : Pipes w b v ps) (hx : Ints w b' u xs) (h1 : Ints w b1 u1 (l.map fun s : Nat => (s : Int))) (hs : ∀ s ∈ l, s < 2 * ps.length) (hlen : xs.length = ps.length)
    (ha : ∀ x ∈ xs, 0 ≤ x ∧ x ≤ 40) (hr : ∀ p ∈ ps, 0 ≤ p.le ∧ p.le ≤ p.mo ∧ p.mo ≤ 4) :
    Calls Try.prog 154 #[.agg #[.int .i64 n, v], u, u1, .int .i64 a, .int .i64 e, .bool last] w fun o w' => o = .returned (.bool (againV ps l a e last)) ∧ Below w.heap.size w w' := by
  have hp0 := hp
  have hx0 := hx
  have h10 := h1
  obtain ⟨A, c, rfl, -, -, -, -⟩ := hp.form
  obtain ⟨A', c', rfl, -, -, -, -⟩ := hx.form
  obtain ⟨A1, c1, rfl, hc1, hc2, hsm, hcell⟩ := h1.form
  unfold maxLen at hc2
  have hlS : (l.map fun s : Nat => (s : Int)).length = l.length := by simp
  rcases Nat.eq_zero_or_pos l.length with hz | hpos
  · have hl0 : l = [] := List.length_eq_zero_iff.1 hz
    subst hl0
    have Hg := Lib.hid (againV_nil ps a e last)
    rw [show (([] : List Nat).map fun s : Nat => (s : Int)).length = 0 from rfl] at hc1 hsm h10 ⊢
    clear hcell hz hlS hs ha hr
    go_enter Try.func154, Try.ntmps154
    go_wp2
    go_ret
    exact ⟨ret_bool Hg.out.symm, by (repeat (first | (with_reducible assumption) | (with_reducible exact Below.refl _ _) | ((with_reducible refine Below.alloc ?_ ?hsz _); (case hsz => (first | omega | (simp; done) | (simp; omega) | (simp at *; omega)))) | ((with_reducible refine Below.setCell ?_ ?hsz _); (case hsz => (first | omega | (simp; done) | (simp; omega) | (simp at *; omega)))) | (with_reducible refine Below.drew ?_) | (with_reducible refine below_drewN ?_ _) | ((with_reducible refine Below.trans ?_ (Below.mono (by with_reducible assumption) ?hsz)); (case hsz => (first | omega | (simp; done) | (simp; omega) | (simp at *; omega))))))⟩
  · obtain ⟨M, hM⟩ : ∃ M, l.length = M + 1 := ⟨l.length - 1, by omega⟩
    have hMl : M < l.length := by omega
    have Hg := Lib.hid (againV_last (ps := ps) (a := a) (e := e) (last := last) hMl hM)
    obtain ⟨g, rfl, hg1, hg2, cw, -⟩ := hcell w (Below.refl _ _) M (by rw [hlS]; exact hMl)
    have cw' : w.cell? ⟨g, M, none⟩ = some (.int .i64 (l[M] : Nat)) := by rw [cw]; simp
    have ht := hs l[M] (List.getElem_mem hMl)
    have HS := Lib.hid (And.intro hs (And.intro hlen (And.intro ha (And.intro hr (And.intro hM hlS)))))
    have HC := Lib.hid hcell
    obtain ⟨L, hL⟩ : ∃ L, l.length = L := ⟨_, rfl⟩
    have HL := Lib.hid hL
    rw [hlS, hL] at hc1 hsm h10 ⊢
    have hne : ((L : Int) == 0) = false := by rw [beq_eq_false_iff_ne]; omega
    have hwr : IntKind.i64.wrap ((L : Int) - 1) = (M : Int) := by rw [IntWalk.i64_in _ (by omega)]; omega
    have hwr2 : wrap64 ((L : Int) - 1) = (M : Int) := by rw [IntWalk.wrap64_in _ (by omega)]; omega
    have hML : M < L := by omega
    have bx0 := Box2.new w (.int .i64 n) (.slice A ps.length c) 25
    have hB0 : Below w.heap.size w (w.alloc (.cells #[.int .i64 n, .slice A ps.length c] 25)) := by (repeat (first | (with_reducible assumption) | (with_reducible exact Below.refl _ _) | ((with_reducible refine Below.alloc ?_ ?hsz _); (case hsz => (first | omega | (simp; done) | (simp; omega) | (simp at *; omega)))) | ((with_reducible refine Below.setCell ?_ ?hsz _); (case hsz => (first | omega | (simp; done) | (simp; omega) | (simp at *; omega)))) | (with_reducible refine Below.drew ?_) | (with_reducible refine below_drewN ?_ _) | ((with_reducible refine Below.trans ?_ (Below.mono (by with_reducible assumption) ?hsz)); (case hsz => (first | omega | (simp; done) | (simp; omega) | (simp at *; omega))))))
    clear hs cw hcell hlS hpos hM hlen ha hr hL
    generalize hMt : l[M] = t at *
    go_enter Try.func154, Try.ntmps154
    go_wp2_with fail
    generalize hW : World.alloc w _ = wr
    obtain ⟨bxr, hBr⟩ : Box2 wr w.heap.size (.int .i64 n) (.slice A ps.length c) ∧ Below w.heap.size w wr := by rw [← hW]; exact ⟨bx0, hB0⟩
    clear bx0 hB0 hW
    obtain ⟨bs, d0, d1, -, -⟩ := id bxr
    have hgr : g < wr.heap.size := by omega
    have r2 := (hBr.cell (p := ⟨g, M, none⟩) hg2).trans cw'
    have hd0 := fun p : Bw wr => (bw_cell p bs).trans d0
    have hd1 := fun p : Bw wr => (bw_cell p bs).trans d1
    have hd2 := fun p : Bw wr => (bw_cell p hgr).trans r2
    refine wp_region_bw (by kernel_rfl) (by kernel_rfl) ?_
    repeat (go_big_quiet_step ((go_at_call 134; refine calls_bw (specStep_any t n _ _ ps xs b b' _ ((hp0.keep hBr).keep (Bw.h _)) ((hx0.keep hBr).keep (Bw.h _)) ht HS.out.2.1 HS.out.2.2.1 HS.out.2.2.2.1))))
    refine wpQuiet_nil ?_
    rintro _ ⟨pw, rfl⟩
    have bx2 := bxr.keep pw.h
    have hB2 := hBr.trans (pw.h.mono hBr.size)
    obtain ⟨wq, hwq⟩ : ∃ wq, wq = pw.v := ⟨_, rfl⟩
    rw [← hwq] at bx2 hB2 ⊢
    clear hd0 hd1 hd2 hwq r2 d0 d1 bs bxr hgr
    obtain ⟨bs, d0, d1, -, -⟩ := id bx2
    by_cases hta : stTo ps t = a
    · have htb : (stTo ps t != a) = false := by simp [hta]
      have Hg2 : Hid (againV ps l a e last = match l.findIdx? fun q => decide (stFr ps q = e) with | none => false | some k => !last || decide (0 < k)) := Lib.hid (by rw [Hg.out, if_pos hta])
      clear hta Hg
      go_wp2_with fail
      go_loopw [16] (fun i wr => ∃ k : Nat, k ≤ L ∧ i = .int .i64 k ∧ (∀ q ∈ l.take k, (fun q : Nat => !decide (stFr ps q = e)) q = true) ∧ Box2 wr w.heap.size (.int .i64 n) (.slice A ps.length c) ∧ Below w.heap.size w wr) (fun i _ => L - (intOf i).toNat)
      case atStart => exact ⟨0, by omega, rfl, by simp, bx2, hB2⟩
      case round =>
        clear bx2 hB2 d0 d1 bs
        obtain ⟨k, hk, rfl, hall, bx, hb⟩ := hrel
        have Hall := Lib.hid hall
        clear hall
        obtain ⟨bs, d0, d1, -, -⟩ := id bx
        by_cases hlt : k < L
        · have hkl : k < l.length := by have := HL.out; omega
          obtain ⟨gk, hgk, -, gk2, ck, -⟩ := HC.out wr hb k (by rw [HS.out.2.2.2.2.2]; exact hkl)
          injection hgk with hgk
          injection hgk with hgk
          subst hgk
          have ck' : wr.cell? ⟨g, k, none⟩ = some (.int .i64 (l[k] : Nat)) := by rw [ck]; simp
          have htk := HS.out.1 l[k] (List.getElem_mem hkl)
          have Hn : Hid (stFr ps l[k] ≠ e → ∀ q ∈ l.take (k + 1), (fun q : Nat => !decide (stFr ps q = e)) q = true) := Lib.hid fun h => all_take (f := fun q : Nat => !decide (stFr ps q = e)) hkl Hall.out (by simp [h])
          have Hf : Hid (stFr ps l[k] = e → againV ps l a e last = (!last || decide (0 < k))) := Lib.hid fun h => by
            rw [Hg2.out]
            have : l.findIdx? (fun q => decide (stFr ps q = e)) = some k := by
              rw [List.findIdx?_eq_some_iff_getElem]
              refine ⟨hkl, by simpa using h, fun j hj => ?_⟩
              have := Hall.out l[j] (by rw [List.mem_take_iff_getElem]; exact ⟨j, by omega, rfl⟩)
              simpa using this
            rw [this]
          have hzb := hb.size
          have hgr : g < wr.heap.size := by omega
          have hd0 := fun p : Bw wr => (bw_cell p bs).trans d0
          have hd1 := fun p : Bw wr => (bw_cell p bs).trans d1
          have hd2 := fun p : Bw wr => (bw_cell p hgr).trans ck'
          clear ck
          generalize l[k] = tk at *
          go_wp2_with fail
          refine wp_region_bw (by kernel_rfl) (by kernel_rfl) ?_
          repeat (go_big_quiet_step ((go_at_call 134; refine calls_bw (specStep_any tk n _ _ ps xs b b' _ ((hp0.keep hb).keep (Bw.h _)) ((hx0.keep hb).keep (Bw.h _)) htk HS.out.2.1 HS.out.2.2.1 HS.out.2.2.2.1))))
          refine wpQuiet_nil ?_
          rintro _ ⟨pw, rfl⟩
          have bx3 := bx.keep pw.h
          have hB3 := hb.trans (pw.h.mono hb.size)
          obtain ⟨wq2, hwq⟩ : ∃ wq, wq = pw.v := ⟨_, rfl⟩
          rw [← hwq] at bx3 hB3 ⊢
          clear hd0 hd1 hd2 hwq ck' d0 d1 bs bx hgr
          by_cases hte : stFr ps tk = e
          · have hteb : (stFr ps tk == e) = true := by simp [hte]
            have Hr := Lib.hid (Hf.out hte)
            clear hte Hf Hn
            cases last with
            | true =>
              go_wp2
              go_ret
              exact ⟨ret_bool (by rw [Hr.out]; simp), hB3⟩
            | false =>
              go_wp2
              go_ret
              exact ⟨ret_bool (by rw [Hr.out]; simp), hB3⟩
          · have hteb : (stFr ps tk == e) = false := by simp [hte]
            have Hn2 := Lib.hid (Hn.out hte)
            clear hte Hf Hn
            go_wp2
            go_roundw
            case rel => exact ⟨k + 1, by omega, by go_num, Hn2.out, bx3, hB3⟩
            case measure => simp [intOf]; omega
        · have Hr : Hid (againV ps l a e last = false) := Lib.hid (by
            rw [Hg2.out]
            have : l.findIdx? (fun q => decide (stFr ps q = e)) = none := by
              rw [List.findIdx?_eq_none_iff]
              intro q hq
              have := Hall.out q (by rw [List.take_of_length_le (by have := HL.out; omega)]; exact hq)
              simpa using this
            rw [this])
          go_wp2
          go_ret
          exact ⟨ret_bool Hr.out.symm, hb⟩
    · have htb : (stTo ps t != a) = true := by simp [hta]
      have Hr : Hid (againV ps l a e last = true) := Lib.hid (by rw [Hg.out, if_neg hta])
      clear hta Hg
      go_wp2
      go_ret
      exact ⟨ret_bool Hr.out.symm, hB2⟩

end Go.Proofs.Ytphbmlephldaaaa
