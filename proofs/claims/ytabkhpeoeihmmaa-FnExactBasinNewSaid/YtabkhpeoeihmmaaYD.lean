/- Contracts of the functions of chapter 12 in the program: what is asked of a hill; BasinOk. -/
import Derived.Test.YtabkhpeoeihmmaaYC
import Derived.Test.YtabkhpeoeihmmaaY9
import Derived.Test.YtabkhpeoeihmmaaWJ
import Derived.Test.YtabkhpeoeihmmaaW3
import Derived.Deep.RegionHeld3
import Derived.Deep.QuietTactic
namespace Go.Proofs.Ytabkhpeoeihmmaa
open Go.RowKit

/-- a hill with its net, flow and heights -/
def HillOk (w : World) (B g : Nat) (n i j : Int) (ps : List Pp) (xs ys : List Int) : Prop :=
  ∃ u t v b, Hill w g u t n v i j ∧ Pipes w b v ps ∧ Ints w B u xs ∧ Ints w B t ys ∧ (∀ x y, u.ownBlock = some x → t.ownBlock = some y → x ≠ y)
section
variable {w w' : World} {B g : Nat} {n i j : Int} {ps : List Pp} {xs ys : List Int}
theorem HillOk.keep (h : HillOk w B g n i j ps xs ys) (hb : Below w.heap.size w w') : HillOk w' B g n i j ps xs ys := by
  obtain ⟨u, t, v, b, h1, h2, h3, h4, h5⟩ := h
  exact ⟨u, t, v, b, h1.keep hb, h2.keep hb, h3.keep hb, h4.keep hb, h5⟩
theorem HillOk.lt (h : HillOk w B g n i j ps xs ys) : g < w.heap.size := by
  obtain ⟨u, t, v, b, h1, -⟩ := h
  exact h1.lt
end
/-- heights of so many nodes, none past twice as many -/
def hgtIn (n : Int) (ys : List Int) : Prop := (ys.length : Int) = n ∧ ∀ k : Nat, k < ys.length → 0 ≤ ys.getD k 0 ∧ ys.getD k 0 ≤ 2 * n

set_option maxHeartbeats 1000000 in
set_option maxRecDepth 20000 in
theorem hillExc_any {B g : Nat} {n i j : Int} {ps : List Pp} {xs ys : List Int} (k : Int) (w : World) (h : HillOk w B g n i j ps xs ys) (hh : holdsB n ps xs = true) :
    Calls Try.prog 97 #[.pointer (some ⟨g, 0, none⟩), .int .i64 k] w fun e w' => e = .returned (.int .i64 (exc k ps xs)) ∧ Below w.heap.size w w' := by
  obtain ⟨u, t, v, b, hH, hp, hx, -, -⟩ := h
  obtain ⟨-, c0, -, -, c3, -, -⟩ := id hH
  have hg := hH.lt
  have hok := (holds_parts hh).1
  have HE : Hid (∀ p : Bw w, Calls Try.prog 73 #[v, u, .int .i64 k] p.v fun e w' => e = .returned (.int .i64 (exc k ps xs)) ∧ Below p.v.heap.size p.v w') := Lib.hid fun p => excessOf_any k n v u ps xs b B _ (hp.keep p.h) (hx.keep p.h) hok
  obtain ⟨A, c, rfl, -, -, -, -⟩ := hp.form
  obtain ⟨A1, c1, rfl, -, -, -, -⟩ := hx.form
  have q0 := fun p : Bw w => (bw_cell p hg).trans c0
  have q3 := fun p : Bw w => (bw_cell p hg).trans c3
  clear c0 c3 hH hp hx hh hok
  go_enter Try.func97, Try.ntmps97
  go_wp2_with fail
  refine wp_region_bw (by kernel_rfl) (by kernel_rfl) ?_
  repeat (go_big_quiet_step ((go_at_call 73; refine calls_bw (HE.out _))))
  refine wpQuiet_nil ?_
  rintro _ ⟨pw, rfl⟩
  go_wp2
  go_ret
  exact ⟨rfl, pw.h⟩

set_option maxHeartbeats 1000000 in
set_option maxRecDepth 20000 in
theorem hillDrop_any {B g : Nat} {n i j : Int} {ps : List Pp} {xs ys : List Int} (s : Nat) (w : World) (h : HillOk w B g n i j ps xs ys) (hn : netOkB n ps = true) (hy : hgtIn n ys) (hs : s < 2 * ps.length) :
    Calls Try.prog 102 #[.pointer (some ⟨g, 0, none⟩), .int .i64 s] w fun e w' => e = .returned (.int .i64 (dropS ps ys s)) ∧ Below w.heap.size w w' := by
  obtain ⟨u, t, v, b, hH, hp, -, ht, -⟩ := h
  obtain ⟨n2, n5, hl7, -⟩ := netOk_parts hn
  obtain ⟨⟨a0, a1⟩, ⟨e0, e1⟩, -⟩ := st_ends hn hs
  obtain ⟨hy1, hy2⟩ := hy
  obtain ⟨gl, cl, rfl, hR⟩ := ht.row (by omega)
  obtain ⟨A, c, rfl, -, -, -, -⟩ := hp.form
  obtain ⟨f, hf⟩ : ∃ f : Nat, stFr ps s = (f : Int) := ⟨(stFr ps s).toNat, by omega⟩
  obtain ⟨e, he⟩ : ∃ e : Nat, stTo ps s = (e : Int) := ⟨(stTo ps s).toNat, by omega⟩
  have hv : dropS ps ys s = ys.getD f 0 - ys.getD e 0 := by simp only [dropS, hgt, hf, he, Int.toNat_natCast]
  have bf := hy2 f (by omega)
  have be := hy2 e (by omega)
  have Hv := Lib.hid hv
  have Hfe := Lib.hid (And.intro hf he)
  generalize hN : ys.length = N at *
  have hfN : f < N := by omega
  have heN : e < N := by omega
  have hg := hH.lt
  clear hv hf he a0 a1 e0 e1 hy2 hn ht
  go_enter Try.func102, Try.ntmps102
  obtain ⟨-, -, c1, -, c3, -, -⟩ := id hH
  go_wp2_with fail
  with_reducible refine (stepEnds_any s _ ps b _ (hp.keep (by (repeat (first | (with_reducible assumption) | (with_reducible exact Below.refl _ _) | ((with_reducible refine Below.alloc ?_ ?hsz _); (case hsz => (first | omega | (simp; done) | (simp; omega) | (simp at *; omega)))) | ((with_reducible refine Below.setCell ?_ ?hsz _); (case hsz => (first | omega | (simp; done) | (simp; omega) | (simp at *; omega)))) | (with_reducible refine Below.drew ?_) | (with_reducible refine below_drewN ?_ _) | ((with_reducible refine Below.trans ?_ (Below.mono (by with_reducible assumption) ?hsz)); (case hsz => (first | omega | (simp; done) | (simp; omega) | (simp at *; omega)))))))) hs hl7).mono ?_
  rintro ee w1 ⟨rfl, hb1⟩
  rw [Hfe.out.1, Hfe.out.2]
  have hB1 : Below w.heap.size w w1 := by (repeat (first | (with_reducible assumption) | (with_reducible exact Below.refl _ _) | ((with_reducible refine Below.alloc ?_ ?hsz _); (case hsz => (first | omega | (simp; done) | (simp; omega) | (simp at *; omega)))) | ((with_reducible refine Below.setCell ?_ ?hsz _); (case hsz => (first | omega | (simp; done) | (simp; omega) | (simp at *; omega)))) | (with_reducible refine Below.drew ?_) | (with_reducible refine below_drewN ?_ _) | ((with_reducible refine Below.trans ?_ (Below.mono (by with_reducible assumption) ?hsz)); (case hsz => (first | omega | (simp; done) | (simp; omega) | (simp at *; omega))))))
  have hR1 := hR.keep hB1
  obtain ⟨-, -, d1, -, d3, -, -⟩ := hH.keep hB1
  obtain ⟨yf, -⟩ := hR1.at' f hfN
  obtain ⟨ye, -⟩ := hR1.at' e heN
  obtain ⟨g1, g2⟩ := hR1.lt
  obtain ⟨hc1, hc2⟩ := hR1.capd
  unfold maxLen at hc2
  clear c1 c3 hR hR1 hb1 hH hN
  generalize ys.getD f 0 = x at *
  generalize ys.getD e 0 = y at *
  go_wp2_with fail
  go_quiet (fail)
  go_wp2
  go_ret
  exact ⟨ret_int (by rw [Hv.out]), by (repeat (first | (with_reducible assumption) | (with_reducible exact Below.refl _ _) | ((with_reducible refine Below.alloc ?_ ?hsz _); (case hsz => (first | omega | (simp; done) | (simp; omega) | (simp at *; omega)))) | ((with_reducible refine Below.setCell ?_ ?hsz _); (case hsz => (first | omega | (simp; done) | (simp; omega) | (simp at *; omega)))) | (with_reducible refine Below.drew ?_) | (with_reducible refine below_drewN ?_ _) | ((with_reducible refine Below.trans ?_ (Below.mono (by with_reducible assumption) ?hsz)); (case hsz => (first | omega | (simp; done) | (simp; omega) | (simp at *; omega))))))⟩

set_option maxHeartbeats 1000000 in
set_option maxRecDepth 20000 in
theorem hillFull_any {B g : Nat} {n i j : Int} {ps : List Pp} {xs ys : List Int} (k : Nat) (w : World) (h : HillOk w B g n i j ps xs ys) (hh : holdsB n ps xs = true) :
    Calls Try.prog 105 #[.pointer (some ⟨g, 0, none⟩), .int .i64 k] w fun e w' => e = .returned (.bool (fullF i j ps xs k)) ∧ Below w.heap.size w w' := by
  have h0 := h
  obtain ⟨u, t, v, b, hH, -⟩ := h
  obtain ⟨-, -, -, -, -, c4, c5⟩ := id hH
  by_cases h1 : (k : Int) = i
  · have hn1 : ((k : Int) != i) = false := by simp [h1]
    have HF := Lib.hid (show fullF i j ps xs k = false by simp [fullF, h1])
    clear h1
    go_enter Try.func105, Try.ntmps105
    go_wp2
    go_ret
    exact ⟨ret_bool HF.out.symm, by (repeat (first | (with_reducible assumption) | (with_reducible exact Below.refl _ _) | ((with_reducible refine Below.alloc ?_ ?hsz _); (case hsz => (first | omega | (simp; done) | (simp; omega) | (simp at *; omega)))) | ((with_reducible refine Below.setCell ?_ ?hsz _); (case hsz => (first | omega | (simp; done) | (simp; omega) | (simp at *; omega)))) | (with_reducible refine Below.drew ?_) | (with_reducible refine below_drewN ?_ _) | ((with_reducible refine Below.trans ?_ (Below.mono (by with_reducible assumption) ?hsz)); (case hsz => (first | omega | (simp; done) | (simp; omega) | (simp at *; omega))))))⟩
  · have hn1 : ((k : Int) != i) = true := by rw [bne_iff_ne]; exact h1
    by_cases h2 : (k : Int) = j
    · have hn2 : ((k : Int) != j) = false := by simp [h2]
      have HF := Lib.hid (show fullF i j ps xs k = false by simp [fullF, h2])
      clear h1 h2
      go_enter Try.func105, Try.ntmps105
      go_wp2
      go_ret
      exact ⟨ret_bool HF.out.symm, by (repeat (first | (with_reducible assumption) | (with_reducible exact Below.refl _ _) | ((with_reducible refine Below.alloc ?_ ?hsz _); (case hsz => (first | omega | (simp; done) | (simp; omega) | (simp at *; omega)))) | ((with_reducible refine Below.setCell ?_ ?hsz _); (case hsz => (first | omega | (simp; done) | (simp; omega) | (simp at *; omega)))) | (with_reducible refine Below.drew ?_) | (with_reducible refine below_drewN ?_ _) | ((with_reducible refine Below.trans ?_ (Below.mono (by with_reducible assumption) ?hsz)); (case hsz => (first | omega | (simp; done) | (simp; omega) | (simp at *; omega))))))⟩
    · have hn2 : ((k : Int) != j) = true := by rw [bne_iff_ne]; exact h2
      have HF := Lib.hid (show fullF i j ps xs k = decide (0 < exc (k : Int) ps xs) by simp [fullF, h1, h2])
      clear h1 h2
      go_enter Try.func105, Try.ntmps105
      go_wp2_with fail
      refine (hillExc_any (k : Int) _ h0 hh).mono ?_
      rintro e w1 ⟨rfl, hb1⟩
      generalize exc (k : Int) ps xs = x at *
      go_wp2
      go_ret
      exact ⟨ret_bool HF.out.symm, by (repeat (first | (with_reducible assumption) | (with_reducible exact Below.refl _ _) | ((with_reducible refine Below.alloc ?_ ?hsz _); (case hsz => (first | omega | (simp; done) | (simp; omega) | (simp at *; omega)))) | ((with_reducible refine Below.setCell ?_ ?hsz _); (case hsz => (first | omega | (simp; done) | (simp; omega) | (simp at *; omega)))) | (with_reducible refine Below.drew ?_) | (with_reducible refine below_drewN ?_ _) | ((with_reducible refine Below.trans ?_ (Below.mono (by with_reducible assumption) ?hsz)); (case hsz => (first | omega | (simp; done) | (simp; omega) | (simp at *; omega))))))⟩

set_option maxHeartbeats 1000000 in
set_option maxRecDepth 20000 in
theorem hillLackFn_any {B g : Nat} {n i j : Int} {ps : List Pp} {xs ys : List Int} (k bh : Nat) (w : World) (h : HillOk w B g n i j ps xs ys) (hh : holdsB n ps xs = true) (d0 : w.cell? ⟨bh, 0, none⟩ = some (.pointer (some ⟨g, 0, none⟩))) :
    Calls Try.prog 96 #[.int .i64 k, .pointer (some ⟨bh, 0, none⟩)] w fun e w' => e = .returned (.bool (lackF i ps xs k)) ∧ Below w.heap.size w w' := by
  have h0 := h
  obtain ⟨u, t, v, b, hH, -⟩ := h
  obtain ⟨-, -, -, -, -, c4, c5⟩ := id hH
  by_cases h1 : (k : Int) = i
  · have hn1 : ((k : Int) != i) = false := by simp [h1]
    have HF := Lib.hid (show lackF i ps xs k = false by simp [lackF, h1])
    clear h1
    go_enter Try.func96, Try.ntmps96
    go_wp2
    go_ret
    exact ⟨ret_bool HF.out.symm, by (repeat (first | (with_reducible assumption) | (with_reducible exact Below.refl _ _) | ((with_reducible refine Below.alloc ?_ ?hsz _); (case hsz => (first | omega | (simp; done) | (simp; omega) | (simp at *; omega)))) | ((with_reducible refine Below.setCell ?_ ?hsz _); (case hsz => (first | omega | (simp; done) | (simp; omega) | (simp at *; omega)))) | (with_reducible refine Below.drew ?_) | (with_reducible refine below_drewN ?_ _) | ((with_reducible refine Below.trans ?_ (Below.mono (by with_reducible assumption) ?hsz)); (case hsz => (first | omega | (simp; done) | (simp; omega) | (simp at *; omega))))))⟩
  · have hn1 : ((k : Int) != i) = true := by rw [bne_iff_ne]; exact h1
    have HF := Lib.hid (show lackF i ps xs k = decide (exc (k : Int) ps xs < 0) by simp [lackF, h1])
    clear h1
    go_enter Try.func96, Try.ntmps96
    go_wp2_with fail
    refine (hillExc_any (k : Int) _ h0 hh).mono ?_
    rintro e w1 ⟨rfl, hb1⟩
    generalize exc (k : Int) ps xs = x at *
    go_wp2
    go_ret
    exact ⟨ret_bool HF.out.symm, by (repeat (first | (with_reducible assumption) | (with_reducible exact Below.refl _ _) | ((with_reducible refine Below.alloc ?_ ?hsz _); (case hsz => (first | omega | (simp; done) | (simp; omega) | (simp at *; omega)))) | ((with_reducible refine Below.setCell ?_ ?hsz _); (case hsz => (first | omega | (simp; done) | (simp; omega) | (simp at *; omega)))) | (with_reducible refine Below.drew ?_) | (with_reducible refine below_drewN ?_ _) | ((with_reducible refine Below.trans ?_ (Below.mono (by with_reducible assumption) ?hsz)); (case hsz => (first | omega | (simp; done) | (simp; omega) | (simp at *; omega))))))⟩

set_option maxHeartbeats 1000000 in
set_option maxRecDepth 20000 in
theorem lackWhere_any {B g : Nat} {n ia ib : Int} {ps : List Pp} {xs ys : List Int} (cnt bh : Nat) (w : World) (h : HillOk w B g n ia ib ps xs ys) (hh : holdsB n ps xs = true) (hcl : cnt ≤ 5) (hbh : bh < w.heap.size) (d0 : w.cell? ⟨bh, 0, none⟩ = some (.pointer (some ⟨g, 0, none⟩))) :
    Calls Try.prog 86 #[.int .i64 cnt, .func (Fn.func 96) #[] #[.pointer (some ⟨bh, 0, none⟩)]] w fun e w' => ∃ r, e = .returned r ∧ Ints w' w.heap.size r (numW cnt (lackF ia ps xs)) ∧ Below w.heap.size w w' := by
  have hcnt : cnt ≤ 1000 := by omega
  clear hcl
  go_enter Try.func86, Try.ntmps86
  go_wp2
  obtain ⟨i0, hi0, hz0, hz1, hz2⟩ := info_parts int_info
  go_loopw [8, 5] (fun i t wr => ∃ (k j k1 : Nat) (A1 : Option Addr), k ≤ cnt ∧ i = .int .i64 k ∧ t = .slice A1 j k1 ∧ (numW k (lackF ia ps xs)).length = j ∧
      wr.ownsRow w.heap.size 3 1 (.slice A1 j k1) j ((numW k (lackF ia ps xs)).map (Value.int .i64)) ∧ Below w.heap.size w wr) (fun i _ _ => cnt - (intOf i).toNat)
  case atStart => exact ⟨0, 0, 0, none, by omega, rfl, rfl, rfl, World.ownsRow_nil _ _ _ 1, Below.refl _ _⟩
  case round =>
    obtain ⟨k, j, k1, A1, hk, rfl, rfl, hj, hown, hb⟩ := hrel
    have hjk : j ≤ k := by rw [← hj]; exact numW_len k _
    have HJ := Lib.hid hj
    clear hj
    obtain ⟨hcr, hfr, hzr⟩ := bcell hb
    by_cases hlt : k < cnt
    · by_cases hf : (lackF ia ps xs) k = true
      · have Hf := Lib.hid (numW_yes hf)
        go_wp2_with fail
        refine (hillLackFn_any k bh _ (h.keep (by (repeat (first | (with_reducible assumption) | (with_reducible exact Below.refl _ _) | ((with_reducible refine Below.alloc ?_ ?hsz _); (case hsz => (first | omega | (simp; done) | (simp; omega) | (simp at *; omega)))) | ((with_reducible refine Below.setCell ?_ ?hsz _); (case hsz => (first | omega | (simp; done) | (simp; omega) | (simp at *; omega)))) | (with_reducible refine Below.drew ?_) | (with_reducible refine below_drewN ?_ _) | ((with_reducible refine Below.trans ?_ (Below.mono (by with_reducible assumption) ?hsz)); (case hsz => (first | omega | (simp; done) | (simp; omega) | (simp at *; omega)))))))) hh (by (repeat (first | (with_reducible assumption) | ((with_reducible refine (Below.cell (by with_reducible assumption) ?hsz).trans ?_); (case hsz => (first | omega | (simp; done) | (simp; omega) | (simp at *; omega)))) | ((with_reducible refine (World.cell?_alloc_lt _ _ _ ?hsz).trans ?_); (case hsz => (first | omega | (simp; done) | (simp; omega) | (simp at *; omega)))) | ((with_reducible refine (World.cell?_setCell_other _ _ _ _ ?hsz).trans ?_); (case hsz => (intro h; injection h with h1 h2; omega))))))).mono ?_
        rintro e w2 ⟨rfl, hb2⟩
        have hown2 := own_keep hown (Nat.le_refl _) hb2
        have hz2' := hb2.size
        have hbw2 : Below w.heap.size w w2 := by (repeat (first | (with_reducible assumption) | (with_reducible exact Below.refl _ _) | ((with_reducible refine Below.alloc ?_ ?hsz _); (case hsz => (first | omega | (simp; done) | (simp; omega) | (simp at *; omega)))) | ((with_reducible refine Below.setCell ?_ ?hsz _); (case hsz => (first | omega | (simp; done) | (simp; omega) | (simp at *; omega)))) | (with_reducible refine Below.drew ?_) | (with_reducible refine below_drewN ?_ _) | ((with_reducible refine Below.trans ?_ (Below.mono (by with_reducible assumption) ?hsz)); (case hsz => (first | omega | (simp; done) | (simp; omega) | (simp at *; omega))))))
        have hrow : ∀ q, (Value.slice A1 j k1).ownBlock = some q → w.heap.size ≤ q := fun q hq => (hown.lt q hq).1
        clear hown hcr hfr hb hb2
        go_wp2_with (first
          | (at_builtin
             go_must (refine wpList_append_lies _ rfl _ _ 25 rfl w.heap.size 3 i0 _ 1 8 Try.underlying25 hi0 hz0 hz1 hz2 rfl (by omega) _ j _ rfl (hown2.alloc _) ⟨w2.heap.size, 0, none⟩ 1 1 [.int .i64 k] rfl rfl (World.news_of_block (cs := #[.int .i64 k]) (t := 3) (fr := (0, 0)) (heap_alloc_new _ _)) (by simp [Value.oneCell']) (by omega) (by unfold maxLen; omega) (by omega) (by simp; omega) _ rfl ?_)
             intro g2 k2 w7 hown7 hgr7 hat7 hlt7))
        have hb7 : Below w.heap.size w w7 := by
          refine Below.grown (w := w2.alloc (.cells #[.int .i64 k] 3)) (by (repeat (first | (with_reducible assumption) | (with_reducible exact Below.refl _ _) | ((with_reducible refine Below.alloc ?_ ?hsz _); (case hsz => (first | omega | (simp; done) | (simp; omega) | (simp at *; omega)))) | ((with_reducible refine Below.setCell ?_ ?hsz _); (case hsz => (first | omega | (simp; done) | (simp; omega) | (simp at *; omega)))) | (with_reducible refine Below.drew ?_) | (with_reducible refine below_drewN ?_ _) | ((with_reducible refine Below.trans ?_ (Below.mono (by with_reducible assumption) ?hsz)); (case hsz => (first | omega | (simp; done) | (simp; omega) | (simp at *; omega))))))) hgr7 (by (first | omega | (simp; done) | (simp; omega) | (simp at *; omega))) hrow
        have hown8 : w7.ownsRow w.heap.size 3 1 (.slice (some ⟨g2, 0, none⟩) (j + 1) k2) (j + 1) ((numW (k + 1) (lackF ia ps xs)).map (Value.int .i64)) := by
          rw [Hf.out, List.map_append]
          simpa using hown7
        have hj8 : (numW (k + 1) (lackF ia ps xs)).length = j + 1 := by rw [Hf.out, List.length_append, HJ.out]; rfl
        clear hown7 hgr7 hat7 hlt7
        go_roundw
        case rel => exact ⟨k + 1, j + 1, k2, some ⟨g2, 0, none⟩, by omega, by go_num, rfl, hj8, hown8, hb7⟩
        case measure => simp [intOf]; omega
      · have hf' : (lackF ia ps xs) k = false := by simpa using hf
        have Hf := Lib.hid (numW_no hf')
        clear hf
        go_wp2_with fail
        refine (hillLackFn_any k bh _ (h.keep (by (repeat (first | (with_reducible assumption) | (with_reducible exact Below.refl _ _) | ((with_reducible refine Below.alloc ?_ ?hsz _); (case hsz => (first | omega | (simp; done) | (simp; omega) | (simp at *; omega)))) | ((with_reducible refine Below.setCell ?_ ?hsz _); (case hsz => (first | omega | (simp; done) | (simp; omega) | (simp at *; omega)))) | (with_reducible refine Below.drew ?_) | (with_reducible refine below_drewN ?_ _) | ((with_reducible refine Below.trans ?_ (Below.mono (by with_reducible assumption) ?hsz)); (case hsz => (first | omega | (simp; done) | (simp; omega) | (simp at *; omega)))))))) hh (by (repeat (first | (with_reducible assumption) | ((with_reducible refine (Below.cell (by with_reducible assumption) ?hsz).trans ?_); (case hsz => (first | omega | (simp; done) | (simp; omega) | (simp at *; omega)))) | ((with_reducible refine (World.cell?_alloc_lt _ _ _ ?hsz).trans ?_); (case hsz => (first | omega | (simp; done) | (simp; omega) | (simp at *; omega)))) | ((with_reducible refine (World.cell?_setCell_other _ _ _ _ ?hsz).trans ?_); (case hsz => (intro h; injection h with h1 h2; omega))))))).mono ?_
        rintro e w2 ⟨rfl, hb2⟩
        have hown2 := own_keep hown (Nat.le_refl _) hb2
        have hbw2 : Below w.heap.size w w2 := by (repeat (first | (with_reducible assumption) | (with_reducible exact Below.refl _ _) | ((with_reducible refine Below.alloc ?_ ?hsz _); (case hsz => (first | omega | (simp; done) | (simp; omega) | (simp at *; omega)))) | ((with_reducible refine Below.setCell ?_ ?hsz _); (case hsz => (first | omega | (simp; done) | (simp; omega) | (simp at *; omega)))) | (with_reducible refine Below.drew ?_) | (with_reducible refine below_drewN ?_ _) | ((with_reducible refine Below.trans ?_ (Below.mono (by with_reducible assumption) ?hsz)); (case hsz => (first | omega | (simp; done) | (simp; omega) | (simp at *; omega))))))
        clear hown hcr hfr hb hb2
        go_wp2
        go_roundw
        case rel => exact ⟨k + 1, j, k1, A1, by omega, by go_num, rfl, by rw [Hf.out]; exact HJ.out, by rw [Hf.out]; exact hown2, hbw2⟩
        case measure => simp [intOf]; omega
    · go_wp2
      go_ret
      have hk2 : k = cnt := by omega
      subst hk2
      exact ⟨_, rfl, ⟨by rw [HJ.out]; exact hown, by rw [HJ.out]; unfold small; omega⟩, hb⟩

set_option maxHeartbeats 1000000 in
set_option maxRecDepth 20000 in
theorem fullWhere_any {B g : Nat} {n ia ib : Int} {ps : List Pp} {xs ys : List Int} (cnt : Nat) (w : World) (h : HillOk w B g n ia ib ps xs ys) (hh : holdsB n ps xs = true) (hcl : cnt ≤ 5) :
    Calls Try.prog 86 #[.int .i64 cnt, .func (Fn.func 105) #[.pointer (some ⟨g, 0, none⟩)] #[]] w fun e w' => ∃ r, e = .returned r ∧ Ints w' w.heap.size r (numW cnt (fullF ia ib ps xs)) ∧ Below w.heap.size w w' := by
  have hcnt : cnt ≤ 1000 := by omega
  clear hcl
  go_enter Try.func86, Try.ntmps86
  go_wp2
  obtain ⟨i0, hi0, hz0, hz1, hz2⟩ := info_parts int_info
  go_loopw [8, 5] (fun i t wr => ∃ (k j k1 : Nat) (A1 : Option Addr), k ≤ cnt ∧ i = .int .i64 k ∧ t = .slice A1 j k1 ∧ (numW k (fullF ia ib ps xs)).length = j ∧
      wr.ownsRow w.heap.size 3 1 (.slice A1 j k1) j ((numW k (fullF ia ib ps xs)).map (Value.int .i64)) ∧ Below w.heap.size w wr) (fun i _ _ => cnt - (intOf i).toNat)
  case atStart => exact ⟨0, 0, 0, none, by omega, rfl, rfl, rfl, World.ownsRow_nil _ _ _ 1, Below.refl _ _⟩
  case round =>
    obtain ⟨k, j, k1, A1, hk, rfl, rfl, hj, hown, hb⟩ := hrel
    have hjk : j ≤ k := by rw [← hj]; exact numW_len k _
    have HJ := Lib.hid hj
    clear hj
    obtain ⟨hcr, hfr, hzr⟩ := bcell hb
    by_cases hlt : k < cnt
    · by_cases hf : (fullF ia ib ps xs) k = true
      · have Hf := Lib.hid (numW_yes hf)
        go_wp2_with fail
        refine (hillFull_any k _ (h.keep (by (repeat (first | (with_reducible assumption) | (with_reducible exact Below.refl _ _) | ((with_reducible refine Below.alloc ?_ ?hsz _); (case hsz => (first | omega | (simp; done) | (simp; omega) | (simp at *; omega)))) | ((with_reducible refine Below.setCell ?_ ?hsz _); (case hsz => (first | omega | (simp; done) | (simp; omega) | (simp at *; omega)))) | (with_reducible refine Below.drew ?_) | (with_reducible refine below_drewN ?_ _) | ((with_reducible refine Below.trans ?_ (Below.mono (by with_reducible assumption) ?hsz)); (case hsz => (first | omega | (simp; done) | (simp; omega) | (simp at *; omega)))))))) hh).mono ?_
        rintro e w2 ⟨rfl, hb2⟩
        have hown2 := own_keep hown (Nat.le_refl _) hb2
        have hz2' := hb2.size
        have hbw2 : Below w.heap.size w w2 := by (repeat (first | (with_reducible assumption) | (with_reducible exact Below.refl _ _) | ((with_reducible refine Below.alloc ?_ ?hsz _); (case hsz => (first | omega | (simp; done) | (simp; omega) | (simp at *; omega)))) | ((with_reducible refine Below.setCell ?_ ?hsz _); (case hsz => (first | omega | (simp; done) | (simp; omega) | (simp at *; omega)))) | (with_reducible refine Below.drew ?_) | (with_reducible refine below_drewN ?_ _) | ((with_reducible refine Below.trans ?_ (Below.mono (by with_reducible assumption) ?hsz)); (case hsz => (first | omega | (simp; done) | (simp; omega) | (simp at *; omega))))))
        have hrow : ∀ q, (Value.slice A1 j k1).ownBlock = some q → w.heap.size ≤ q := fun q hq => (hown.lt q hq).1
        clear hown hcr hfr hb hb2
        go_wp2_with (first
          | (at_builtin
             go_must (refine wpList_append_lies _ rfl _ _ 25 rfl w.heap.size 3 i0 _ 1 8 Try.underlying25 hi0 hz0 hz1 hz2 rfl (by omega) _ j _ rfl (hown2.alloc _) ⟨w2.heap.size, 0, none⟩ 1 1 [.int .i64 k] rfl rfl (World.news_of_block (cs := #[.int .i64 k]) (t := 3) (fr := (0, 0)) (heap_alloc_new _ _)) (by simp [Value.oneCell']) (by omega) (by unfold maxLen; omega) (by omega) (by simp; omega) _ rfl ?_)
             intro g2 k2 w7 hown7 hgr7 hat7 hlt7))
        have hb7 : Below w.heap.size w w7 := by
          refine Below.grown (w := w2.alloc (.cells #[.int .i64 k] 3)) (by (repeat (first | (with_reducible assumption) | (with_reducible exact Below.refl _ _) | ((with_reducible refine Below.alloc ?_ ?hsz _); (case hsz => (first | omega | (simp; done) | (simp; omega) | (simp at *; omega)))) | ((with_reducible refine Below.setCell ?_ ?hsz _); (case hsz => (first | omega | (simp; done) | (simp; omega) | (simp at *; omega)))) | (with_reducible refine Below.drew ?_) | (with_reducible refine below_drewN ?_ _) | ((with_reducible refine Below.trans ?_ (Below.mono (by with_reducible assumption) ?hsz)); (case hsz => (first | omega | (simp; done) | (simp; omega) | (simp at *; omega))))))) hgr7 (by (first | omega | (simp; done) | (simp; omega) | (simp at *; omega))) hrow
        have hown8 : w7.ownsRow w.heap.size 3 1 (.slice (some ⟨g2, 0, none⟩) (j + 1) k2) (j + 1) ((numW (k + 1) (fullF ia ib ps xs)).map (Value.int .i64)) := by
          rw [Hf.out, List.map_append]
          simpa using hown7
        have hj8 : (numW (k + 1) (fullF ia ib ps xs)).length = j + 1 := by rw [Hf.out, List.length_append, HJ.out]; rfl
        clear hown7 hgr7 hat7 hlt7
        go_roundw
        case rel => exact ⟨k + 1, j + 1, k2, some ⟨g2, 0, none⟩, by omega, by go_num, rfl, hj8, hown8, hb7⟩
        case measure => simp [intOf]; omega
      · have hf' : (fullF ia ib ps xs) k = false := by simpa using hf
        have Hf := Lib.hid (numW_no hf')
        clear hf
        go_wp2_with fail
        refine (hillFull_any k _ (h.keep (by (repeat (first | (with_reducible assumption) | (with_reducible exact Below.refl _ _) | ((with_reducible refine Below.alloc ?_ ?hsz _); (case hsz => (first | omega | (simp; done) | (simp; omega) | (simp at *; omega)))) | ((with_reducible refine Below.setCell ?_ ?hsz _); (case hsz => (first | omega | (simp; done) | (simp; omega) | (simp at *; omega)))) | (with_reducible refine Below.drew ?_) | (with_reducible refine below_drewN ?_ _) | ((with_reducible refine Below.trans ?_ (Below.mono (by with_reducible assumption) ?hsz)); (case hsz => (first | omega | (simp; done) | (simp; omega) | (simp at *; omega)))))))) hh).mono ?_
        rintro e w2 ⟨rfl, hb2⟩
        have hown2 := own_keep hown (Nat.le_refl _) hb2
        have hbw2 : Below w.heap.size w w2 := by (repeat (first | (with_reducible assumption) | (with_reducible exact Below.refl _ _) | ((with_reducible refine Below.alloc ?_ ?hsz _); (case hsz => (first | omega | (simp; done) | (simp; omega) | (simp at *; omega)))) | ((with_reducible refine Below.setCell ?_ ?hsz _); (case hsz => (first | omega | (simp; done) | (simp; omega) | (simp at *; omega)))) | (with_reducible refine Below.drew ?_) | (with_reducible refine below_drewN ?_ _) | ((with_reducible refine Below.trans ?_ (Below.mono (by with_reducible assumption) ?hsz)); (case hsz => (first | omega | (simp; done) | (simp; omega) | (simp at *; omega))))))
        clear hown hcr hfr hb hb2
        go_wp2
        go_roundw
        case rel => exact ⟨k + 1, j, k1, A1, by omega, by go_num, rfl, by rw [Hf.out]; exact HJ.out, by rw [Hf.out]; exact hown2, hbw2⟩
        case measure => simp [intOf]; omega
    · go_wp2
      go_ret
      have hk2 : k = cnt := by omega
      subst hk2
      exact ⟨_, rfl, ⟨by rw [HJ.out]; exact hown, by rw [HJ.out]; unfold small; omega⟩, hb⟩

theorem numW_any (c : Nat) (f : Nat → Bool) : decide (0 < (numW c f).length) = (List.range c).any f := by
  apply Bool.eq_iff_iff.2
  simp only [decide_eq_true_eq, List.any_eq_true, numW, List.length_map]
  constructor
  · intro h
    obtain ⟨x, hx⟩ := List.exists_mem_of_length_pos h
    exact ⟨x, (List.mem_filter.1 hx).1, (List.mem_filter.1 hx).2⟩
  · rintro ⟨x, hx, hf⟩
    exact List.length_pos_of_mem (List.mem_filter.2 ⟨hx, hf⟩)

set_option maxHeartbeats 1000000 in
set_option maxRecDepth 20000 in
theorem hillLacks_any {B g : Nat} {n i j : Int} {ps : List Pp} {xs ys : List Int} (w : World) (h : HillOk w B g n i j ps xs ys) (hh : holdsB n ps xs = true) :
    Calls Try.prog 62 #[.pointer (some ⟨g, 0, none⟩)] w fun e w' => e = .returned (.bool (lackB n i ps xs)) ∧ Below w.heap.size w w' := by
  have h0 := h
  obtain ⟨n2, n5, -⟩ := netOk_parts (holds_net hh)
  obtain ⟨N, rfl⟩ : ∃ N : Nat, n = (N : Int) := ⟨n.toNat, by omega⟩
  obtain ⟨u, t, v, b, hH, -⟩ := h
  have hg := hH.lt
  obtain ⟨-, -, -, c2, -, -, -⟩ := id hH
  have HL := Lib.hid (show decide (0 < (numW N (lackF i ps xs)).length) = lackB N i ps xs from numW_any _ _)
  go_enter Try.func62, Try.ntmps62
  go_wp2_with fail
  refine (lackWhere_any N _ _ (h0.keep (by (repeat (first | (with_reducible assumption) | (with_reducible exact Below.refl _ _) | ((with_reducible refine Below.alloc ?_ ?hsz _); (case hsz => (first | omega | (simp; done) | (simp; omega) | (simp at *; omega)))) | ((with_reducible refine Below.setCell ?_ ?hsz _); (case hsz => (first | omega | (simp; done) | (simp; omega) | (simp at *; omega)))) | (with_reducible refine Below.drew ?_) | (with_reducible refine below_drewN ?_ _) | ((with_reducible refine Below.trans ?_ (Below.mono (by with_reducible assumption) ?hsz)); (case hsz => (first | omega | (simp; done) | (simp; omega) | (simp at *; omega)))))))) hh (by omega) (by (first | omega | (simp; done) | (simp; omega) | (simp at *; omega))) (by go_simp)).mono ?_
  rintro e w1 ⟨r, rfl, hr, hb1⟩
  obtain ⟨A, c, rfl, -, -, -, -⟩ := hr.form
  go_wp2
  go_ret
  exact ⟨ret_bool HL.out, by (repeat (first | (with_reducible assumption) | (with_reducible exact Below.refl _ _) | ((with_reducible refine Below.alloc ?_ ?hsz _); (case hsz => (first | omega | (simp; done) | (simp; omega) | (simp at *; omega)))) | ((with_reducible refine Below.setCell ?_ ?hsz _); (case hsz => (first | omega | (simp; done) | (simp; omega) | (simp at *; omega)))) | (with_reducible refine Below.drew ?_) | (with_reducible refine below_drewN ?_ _) | ((with_reducible refine Below.trans ?_ (Below.mono (by with_reducible assumption) ?hsz)); (case hsz => (first | omega | (simp; done) | (simp; omega) | (simp at *; omega))))))⟩

set_option maxHeartbeats 1000000 in
set_option maxRecDepth 20000 in
theorem hillHeights_any {B g : Nat} {n i j : Int} {ps : List Pp} {xs ys : List Int} (w : World) (h : HillOk w B g n i j ps xs ys) (hg : greatB n ps i j = true) :
    Calls Try.prog 63 #[.pointer (some ⟨g, 0, none⟩)] w fun e w' => e = .returned (.bool (hgtB n i j ys)) ∧ Below w.heap.size w w' := by
  obtain ⟨-, n2, n5, i0, i1, j0, j1, -⟩ := net_of_great hg
  obtain ⟨u, t, v, b, hH, -, -, ht, -⟩ := h
  have hgl := hH.lt
  obtain ⟨-, -, c1, c2, -, c4, c5⟩ := id hH
  obtain ⟨A1, a1, rfl, -, ha2, -, -⟩ := ht.form
  unfold maxLen at ha2
  have HR : Hid (∀ p : Bw w, Calls Try.prog 98 #[.slice A1 ys.length a1, .int .i64 n, .int .i64 0, .int .i64 (2 * n)] p.v fun e w' => e = .returned (.bool (rowB ys n 0 (2 * n))) ∧ Below p.v.heap.size p.v w') := Lib.hid fun p => rowOk_any _ ys n 0 (2 * n) B _ (ht.keep p.h)
  have q1 := fun p : Bw w => (bw_cell p hgl).trans c1
  have q2 := fun p : Bw w => (bw_cell p hgl).trans c2
  have q4 := fun p : Bw w => (bw_cell p hgl).trans c4
  have q5 := fun p : Bw w => (bw_cell p hgl).trans c5
  have hw2 : IntKind.i64.wrap (2 * n) = 2 * n := IntWalk.i64_in _ (by omega)
  by_cases hr : rowB ys n 0 (2 * n) = true
  · have hr' := hr
    simp only [rowB, Bool.and_eq_true, decide_eq_true_eq] at hr'
    obtain ⟨gl, cl, hv, hRow⟩ := ht.row (by omega)
    injection hv with e1 e2 e3
    subst e1
    subst e3
    obtain ⟨I, rfl⟩ : ∃ I : Nat, i = (I : Int) := ⟨i.toNat, by omega⟩
    obtain ⟨J, rfl⟩ : ∃ J : Nat, j = (J : Int) := ⟨j.toNat, by omega⟩
    have HB : Hid (hgtB n I J ys = ((ys.getD I 0 == n) && (ys.getD J 0 == 0))) := Lib.hid (by
      rw [hgtB, show (decide ((ys.length : Int) = n) && ys.all fun h => withinB h 0 (2 * n)) = true from hr, Bool.true_and, hgt, hgt, Int.toNat_natCast, Int.toNat_natCast, beq_dec, beq_dec])
    obtain ⟨g1, g2⟩ := hRow.lt
    obtain ⟨hc1, hc2⟩ := hRow.capd
    unfold maxLen at hc2
    obtain ⟨yI, -⟩ := hRow.at' I (by omega)
    obtain ⟨yJ, -⟩ := hRow.at' J (by omega)
    have q6 := fun p : Bw w => (bw_cell p g2).trans yI
    have q7 := fun p : Bw w => (bw_cell p g2).trans yJ
    have hIN : I < ys.length := by omega
    have hJN : J < ys.length := by omega
    rw [hr] at HR
    generalize ys.getD I 0 = x at *
    generalize ys.getD J 0 = y at *
    obtain ⟨bx, hbx⟩ : ∃ bx, (x == n) = bx := ⟨_, rfl⟩
    obtain ⟨bz, hby⟩ : ∃ bz, (y == (0 : Int)) = bz := ⟨_, rfl⟩
    rw [hbx, hby] at HB
    clear c1 c2 c4 c5 yI yJ hr hr' hRow ht hH hg
    cases bx
    · go_enter Try.func63, Try.ntmps63
      go_wp2_with fail
      refine wp_region_bw (by kernel_rfl) (by kernel_rfl) ?_
      repeat (go_big_quiet_step ((go_at_call 98; (try rw [hw2]); refine calls_bw (HR.out _))))
      refine wpQuiet_nil ?_
      rintro _ ⟨pw, rfl⟩
      go_wp2
      go_ret
      exact ⟨ret_bool (by rw [HB.out]; rfl), pw.h⟩
    · go_enter Try.func63, Try.ntmps63
      go_wp2_with fail
      refine wp_region_bw (by kernel_rfl) (by kernel_rfl) ?_
      repeat (go_big_quiet_step ((go_at_call 98; (try rw [hw2]); refine calls_bw (HR.out _))))
      refine wpQuiet_nil ?_
      rintro _ ⟨pw, rfl⟩
      go_wp2
      go_ret
      exact ⟨ret_bool (by rw [HB.out]; rfl), pw.h⟩
  · have hr' : rowB ys n 0 (2 * n) = false := by simpa using hr
    have HB : Hid (hgtB n i j ys = false) := Lib.hid (by
      rw [hgtB, show (decide ((ys.length : Int) = n) && ys.all fun h => withinB h 0 (2 * n)) = false from hr', Bool.false_and, Bool.false_and])
    rw [hr'] at HR
    clear c1 c2 c4 c5 hr hr' ht hH hg
    go_enter Try.func63, Try.ntmps63
    go_wp2_with fail
    refine wp_region_bw (by kernel_rfl) (by kernel_rfl) ?_
    repeat (go_big_quiet_step ((go_at_call 98; (try rw [hw2]); refine calls_bw (HR.out _))))
    refine wpQuiet_nil ?_
    rintro _ ⟨pw, rfl⟩
    go_wp2
    go_ret
    exact ⟨ret_bool HB.out.symm, pw.h⟩

end Go.Proofs.Ytabkhpeoeihmmaa
