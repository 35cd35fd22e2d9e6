/- Plain facts. -/
import Derived.Test.YtmgpekdhcghabaaGreatGR23
import Derived.Test.YtmgpekdhcghabaaGreatGR7
import Derived.Lib.SliceRun
import Derived.Test.YtmgpekdhcghabaaGreatGR17
import Derived.Test.YtmgpekdhcghabaaGreatW5
/- Plain facts of chapter 11: unit nets, and nets with emptied pipes. -/
namespace Go.Proofs.YtmgpekdhcghabaaGreat
open Go.RowKit

def unitP (p : Pp) : Pp := ⟨p.fr, p.to, 0, min p.mo 1, p.co⟩
def unitN (n : Int) (ps : List Pp) : Int := if netOkB n ps = true then n else 0
def unitL (n : Int) (ps : List Pp) : List Pp := if netOkB n ps = true then ps.map unitP else []
section
variable {n a b : Int} {ps qs : List Pp} {xs : List Int} {k : Nat}
theorem unit_no (h : netOkB n ps = false) : unitN n ps = 0 ∧ unitL n ps = [] := by simp [unitN, unitL, h]
theorem unit_yes (h : netOkB n ps = true) : unitN n ps = n ∧ unitL n ps = ps.map unitP := by simp [unitN, unitL, h]
theorem getD_none {ps : List Pp} (hk : ¬ k < ps.length) : ps.getD k zeroPp = zeroPp := by
  rw [List.getD_eq_getElem?_getD, List.getElem?_eq_none (by omega)]; rfl
theorem unit_getD (ps : List Pp) (hk : k < ps.length) : (ps.map unitP).getD k zeroPp = unitP (ps.getD k zeroPp) := by
  rw [List.getD_eq_getElem?_getD, List.getD_eq_getElem?_getD, List.getElem?_eq_getElem (by simpa using hk), List.getElem?_eq_getElem hk]
  simp

theorem net_of (h : netOkB n ps = true) (hl : qs.length = ps.length) (hp : ∀ (k : Nat) (hk : k < qs.length), pipeOkB n qs[k].fr qs[k].to qs[k].le qs[k].mo qs[k].co = true) : netOkB n qs = true := by
  obtain ⟨n2, n5, l7, -⟩ := netOk_parts h
  simp only [netOkB, withinB, Bool.and_eq_true, decide_eq_true_eq, List.all_eq_true]
  refine ⟨⟨⟨n2, n5⟩, by omega⟩, fun p hm => ?_⟩
  obtain ⟨k, hk, rfl⟩ := List.getElem_of_mem hm
  exact hp k hk
theorem unit_net (h : netOkB n ps = true) : netOkB n (ps.map unitP) = true := by
  refine net_of h (by simp) fun k hk => ?_
  have hk' : k < ps.length := by simpa using hk
  have := pipeOk_iff.1 ((netOk_parts h).2.2.2 _ (List.getElem_mem hk'))
  refine pipeOk_iff.2 ?_
  simp only [List.getElem_map, unitP]
  omega
theorem unit_free (h : netOkB n ps = true) : freeB n (ps.map unitP) = true := by
  simp only [freeB, Bool.and_eq_true, List.all_eq_true, List.mem_map, decide_eq_true_eq]
  refine ⟨unit_net h, ?_⟩
  rintro p ⟨q, -, rfl⟩
  rfl
end

end Go.Proofs.YtmgpekdhcghabaaGreat

/- Plain facts of chapter 11: fewest blocks. -/
namespace Go.Proofs.YtmgpekdhcghabaaGreat
open Go.RowKit

theorem numW_same {c : Nat} {f g : Nat → Bool} (h : ∀ k, k < c → f k = g k) : numW c f = numW c g := by
  induction c with
  | zero => rfl
  | succ c ih =>
    have ih := ih fun k hk => h k (by omega)
    have hc := h c (by omega)
    cases hf : f c with
    | true => rw [numW_yes hf, numW_yes (by rw [← hc, hf]), ih]
    | false => rw [numW_no hf, numW_no (by rw [← hc, hf]), ih]
theorem numW_filter (c : Nat) (f : Nat → Bool) (g : Int → Bool) : (numW c f).filter g = numW c fun k => f k && g (k : Int) := by
  induction c with
  | zero => rfl
  | succ c ih =>
    cases hf : f c with
    | false => rw [numW_no hf, numW_no (by simp [hf]), ih]
    | true =>
      cases hg : g (c : Int) with
      | false => rw [numW_yes hf, numW_no (by simp [hg]), List.filter_append, ih]; simp [hg]
      | true => rw [numW_yes hf, numW_yes (by simp [hf, hg]), List.filter_append, ih]; simp [hg]

/-- pipes that leave a side and hold something -/
def heldF (s : Int) (us : List Pp) (k : Nat) : Bool := leavF s us k && decide (0 < (us.getD k zeroPp).mo)
def blkL (s : Int) (us : List Pp) : List Int := numW us.length (heldF s us)
/-- one unit at most in each pipe -/
def unitB (us : List Pp) : Prop := ∀ k, k < us.length → (us.getD k zeroPp).le = 0 ∧ 0 ≤ (us.getD k zeroPp).mo ∧ (us.getD k zeroPp).mo ≤ 1

section
variable {n a b s : Int} {ps us : List Pp} {xs : List Int} {k : Nat}
theorem unit_unitB (h : netOkB n ps = true) : unitB (ps.map unitP) := fun k hk => by
  have hk' : k < ps.length := by simpa using hk
  have := pipeOk_iff.1 ((netOk_parts h).2.2.2 _ (List.getElem_mem hk'))
  rw [unit_getD ps hk', List.getD_eq_getElem?_getD, List.getElem?_eq_getElem hk']
  show (0 : Int) = 0 ∧ 0 ≤ min ps[k].mo 1 ∧ min ps[k].mo 1 ≤ 1
  omega
theorem getD_el (hk : k < us.length) : us.getD k zeroPp = us[k] := by rw [List.getD_eq_getElem?_getD, List.getElem?_eq_getElem hk]; rfl
theorem blk_len (hu : unitB us) : ((blkL s us).length : Int) = room s us := by
  have key : ∀ j, j ≤ us.length → ((numW j (heldF s us)).length : Int) = room s (us.take j) := by
    intro j
    induction j with
    | zero => intro _; simp [numW, room]
    | succ j ih =>
      intro hj
      have hjl : j < us.length := by omega
      have ih := ih (by omega)
      obtain ⟨u1, u2, u3⟩ := hu j hjl
      rw [getD_el hjl] at u1 u2 u3
      rw [room_snoc s us j hjl, ← ih]
      by_cases hl : partsB s us[j].fr us[j].to = true
      · rw [acT_out hl]
        by_cases hm : 0 < us[j].mo
        · rw [numW_yes (by rw [heldF, leavF_at hjl, hl, getD_el hjl]; simpa using hm)]
          simp only [List.length_append, List.length_singleton]
          omega
        · rw [numW_no (by rw [heldF, leavF_at hjl, hl, getD_el hjl]; simpa using hm)]
          omega
      · have hl : partsB s us[j].fr us[j].to = false := by simpa using hl
        rw [numW_no (by rw [heldF, leavF_at hjl, hl]; rfl)]
        by_cases hb : partsB s us[j].to us[j].fr = true
        · rw [acT_back hl hb, u1]; omega
        · rw [acT_no hl (by simpa using hb)]; omega
  have := key us.length (Nat.le_refl _)
  rw [List.take_length] at this
  exact this
theorem blk_filter (hu : unitB us) (hs : sideB n us s = true) : ((leavingL n us s).filter fun x => !((us.getD x.toNat zeroPp).mo == 0)) = blkL s us := by
  rw [leaving_yes hs, numW_filter]
  refine numW_same fun k hk => ?_
  have := hu k hk
  rw [heldF]
  congr 1
  rw [Int.toNat_natCast, Bool.eq_iff_iff]
  simp only [Bool.not_eq_true', beq_eq_false_iff_ne, decide_eq_true_eq]
  omega
theorem leaving_at (hs : sideB n us s = true) {x : Int} (hx : x ∈ leavingL n us s) : ∃ k : Nat, x = (k : Int) ∧ k < us.length := by
  rw [leaving_yes hs] at hx
  obtain ⟨i, hi, -, e⟩ := numW_mem.1 hx
  exact ⟨i, e, hi⟩
theorem least_blk (he : endsB n us a b = true) (hu : unitB us) : 0 ≤ leastI n us a b := by
  obtain ⟨s, -, -, -, e⟩ := least_at he
  rw [e, ← blk_len hu]
  exact Int.natCast_nonneg _
def fewB (n : Int) (ps : List Pp) (a b : Int) : Bool := endsB n ps a b
def fewS (n : Int) (us : List Pp) (a b : Int) : Int := (narrowL n us a b).getD 0 0
def fewR (n : Int) (ps : List Pp) (a b : Int) : List Int := if endsB n ps a b = true then blkL (fewS n (ps.map unitP) a b) (ps.map unitP) else []

theorem fewR_len (n : Int) (ps : List Pp) (a b : Int) : (fewR n ps a b).length ≤ ps.length := by
  unfold fewR
  split
  · have := numW_len (ps.map unitP).length (heldF (fewS n (ps.map unitP) a b) (ps.map unitP))
    rw [List.length_map] at this
    rw [blkL, List.length_map]
    exact this
  · simp
theorem few_side (he : endsB n us a b = true) : fewS n us a b ∈ narrowL n us a b := by
  have h := narrow_some he
  rw [fewS, List.getD_eq_getElem?_getD, List.getElem?_eq_getElem h]
  exact List.getElem_mem h
theorem unit_ends2 (he : endsB n ps a b = true) : endsB n (ps.map unitP) a b = true := by
  have hn := (ends_parts he).1
  simp only [endsB, Bool.and_eq_true] at he ⊢
  exact ⟨⟨⟨unit_net hn, he.1.1.2⟩, he.1.2⟩, he.2⟩
end

end Go.Proofs.YtmgpekdhcghabaaGreat

/- Contracts of the functions of chapter 11 in the program: what is struck from a row (DeleteFunc). -/
namespace Go.Proofs.YtmgpekdhcghabaaGreat
open Go.RowKit

theorem getD_set9 (o : List Int) (k i : Nat) (y : Int) (h : k ≠ i) : (o.set k y).getD i 0 = o.getD i 0 := by
  simp only [List.getD_eq_getElem?_getD, List.getElem?_set_ne h]
theorem own_front9 {w : World} {b e n m g cap : Nat} {xs : List Value} (h : w.ownsRow b e 1 (.slice (some ⟨g, 0, none⟩) n cap) n xs) (hm : m ≤ n) : w.ownsRow b e 1 (.slice (some ⟨g, 0, none⟩) m cap) m (xs.take m) := by
  obtain ⟨h1, h2⟩ := h
  rcases h2 with ⟨h, -⟩ | ⟨g', cap', cur, e1, h3, h4, h5, h6, h7, h8⟩
  · cases h
  · injection e1 with x1 x2 x3
    injection x1 with x1
    injection x1 with x1
    subst x1
    subst x3
    refine ⟨by rw [List.length_take, h1]; omega, .inr ⟨g, cap, cur, rfl, h3, h4, by omega, h6, h7, ?_⟩⟩
    rw [← h8, List.take_take, Nat.mul_one, Nat.min_eq_left (by omega)]
theorem Row.setCells {b g n cap : Nat} (xs : List Int) : ∀ {w : World} {L : List Int} (o : Nat), Row w b g n cap L → o + xs.length ≤ n → ∃ M, Row (w.setCells g o (xs.map (Value.int .i64))) b g n cap M ∧ M.take o = L.take o ∧ (∀ W : World, ∀ B, Below B W w → B ≤ g → Below B W (w.setCells g o (xs.map (Value.int .i64)))) := by
  induction xs with
  | nil => intro w L o h _; exact ⟨L, h, rfl, fun _ _ h _ => h⟩
  | cons x xs ih =>
    intro w L o h hl
    simp only [List.length_cons] at hl
    obtain ⟨M, h1, h2, h3⟩ := ih (w := w.setCell ⟨g, o, none⟩ (.int .i64 x)) (L := L.set o x) (o + 1) (h.set o x) (by omega)
    refine ⟨M, h1, ?_, fun W B hb hg => h3 W B (hb.setCell (p := ⟨g, o, none⟩) hg _) hg⟩
    have := congrArg (List.take o) h2
    rw [List.take_take, List.take_take, Nat.min_eq_left (by omega)] at this
    rw [this, List.take_set_of_le (by omega)]
theorem Row.front {w : World} {b g n m cap : Nat} {L : List Int} (h : Row w b g n cap L) (hm : m ≤ n) : Row w b g m cap (L.take m) := ⟨by
  have := own_front9 h.1 hm
  rwa [← List.map_take] at this, Nat.le_trans hm h.2⟩

section
variable {del : Int → Bool} {bn : Nat}
set_option maxHeartbeats 1000000 in
set_option maxRecDepth 20000 in
theorem indexDel_any (u : Value) (xs : List Int) (b : Nat) (w : World) (hx : Ints w b u xs)
    (hcl : ∀ W, Below w.heap.size w W → ∀ x ∈ xs, Calls Tryz.prog 41 #[.int .i64 x, .pointer (some ⟨bn, 0, none⟩)] W fun e w' => e = .returned (.bool (del x)) ∧ Below W.heap.size W w') :
    Calls Tryz.prog 89 #[u, .func (Fn.func 41) #[] #[.pointer (some ⟨bn, 0, none⟩)]] w fun e w' => ∃ r : Int, e = .returned (.int .i64 r) ∧ ((r = -1 ∧ ∀ x ∈ xs, del x = false) ∨ ∃ j : Nat, r = (j : Int) ∧ j < xs.length ∧ del (xs.getD j 0) = true ∧ ∀ x ∈ xs.take j, del x = false) ∧ Below w.heap.size w w' := by
  obtain ⟨A0, c0, rfl, hc1, hc2, hs, hcell⟩ := hx.form
  unfold maxLen at hc2
  go_enter Tryz.func89, Tryz.ntmps89
  go_wp2
  go_loopw [8] (fun i wr => ∃ k : Nat, k ≤ xs.length ∧ i = .int .i64 k ∧ (∀ x ∈ xs.take k, del x = false) ∧ Below w.heap.size w wr) (fun i _ => xs.length - (intOf i).toNat)
  case atStart => exact ⟨0, by omega, rfl, by simp, Below.refl _ _⟩
  case round =>
    obtain ⟨k, hk, rfl, hall, hb⟩ := hrel
    have Hall := Lib.hid hall
    clear hall
    have hzb := hb.size
    by_cases hlt : k < xs.length
    · obtain ⟨g, rfl, hg1, hg2, cx, -⟩ := hcell wr hb k hlt
      have hgr : g < wr.heap.size := by omega
      by_cases hz : del xs[k] = true
      · go_wp2_with fail
        refine (hcl _ (by (repeat (first | (with_reducible assumption) | (with_reducible exact Below.refl _ _) | ((with_reducible refine Below.alloc ?_ ?hsz _); (case hsz => (first | omega | (simp; done) | (simp; omega) | (simp at *; omega)))) | ((with_reducible refine Below.setCell ?_ ?hsz _); (case hsz => (first | omega | (simp; done) | (simp; omega) | (simp at *; omega)))) | (with_reducible refine Below.drew ?_) | (with_reducible refine below_drewN ?_ _) | ((with_reducible refine Below.trans ?_ (Below.mono (by with_reducible assumption) ?hsz)); (case hsz => (first | omega | (simp; done) | (simp; omega) | (simp at *; omega))))))) xs[k] (List.getElem_mem hlt)).mono ?_
        rintro e w1 ⟨rfl, hb1⟩
        rw [hz]
        have Hz := Lib.hid hz
        clear hz
        go_wp2
        go_ret
        exact ⟨_, rfl, .inr ⟨k, rfl, hlt, by rw [getD_at hlt]; exact Hz.out, Hall.out⟩, by (repeat (first | (with_reducible assumption) | (with_reducible exact Below.refl _ _) | ((with_reducible refine Below.alloc ?_ ?hsz _); (case hsz => (first | omega | (simp; done) | (simp; omega) | (simp at *; omega)))) | ((with_reducible refine Below.setCell ?_ ?hsz _); (case hsz => (first | omega | (simp; done) | (simp; omega) | (simp at *; omega)))) | (with_reducible refine Below.drew ?_) | (with_reducible refine below_drewN ?_ _) | ((with_reducible refine Below.trans ?_ (Below.mono (by with_reducible assumption) ?hsz)); (case hsz => (first | omega | (simp; done) | (simp; omega) | (simp at *; omega))))))⟩
      · have hz' : del xs[k] = false := by simpa using hz
        have Hn := Lib.hid (show ∀ x ∈ xs.take (k + 1), del x = false by
          intro x hx
          rw [List.take_succ_eq_append_getElem hlt, List.mem_append] at hx
          rcases hx with hx | hx
          · exact Hall.out x hx
          · simp only [List.mem_singleton] at hx
            rw [hx]; exact hz')
        clear hz
        go_wp2_with fail
        refine (hcl _ (by (repeat (first | (with_reducible assumption) | (with_reducible exact Below.refl _ _) | ((with_reducible refine Below.alloc ?_ ?hsz _); (case hsz => (first | omega | (simp; done) | (simp; omega) | (simp at *; omega)))) | ((with_reducible refine Below.setCell ?_ ?hsz _); (case hsz => (first | omega | (simp; done) | (simp; omega) | (simp at *; omega)))) | (with_reducible refine Below.drew ?_) | (with_reducible refine below_drewN ?_ _) | ((with_reducible refine Below.trans ?_ (Below.mono (by with_reducible assumption) ?hsz)); (case hsz => (first | omega | (simp; done) | (simp; omega) | (simp at *; omega))))))) xs[k] (List.getElem_mem hlt)).mono ?_
        rintro e w1 ⟨rfl, hb1⟩
        rw [hz']
        go_wp2
        go_roundw
        case rel => exact ⟨k + 1, by omega, by go_num, Hn.out, by (repeat (first | (with_reducible assumption) | (with_reducible exact Below.refl _ _) | ((with_reducible refine Below.alloc ?_ ?hsz _); (case hsz => (first | omega | (simp; done) | (simp; omega) | (simp at *; omega)))) | ((with_reducible refine Below.setCell ?_ ?hsz _); (case hsz => (first | omega | (simp; done) | (simp; omega) | (simp at *; omega)))) | (with_reducible refine Below.drew ?_) | (with_reducible refine below_drewN ?_ _) | ((with_reducible refine Below.trans ?_ (Below.mono (by with_reducible assumption) ?hsz)); (case hsz => (first | omega | (simp; done) | (simp; omega) | (simp at *; omega))))))⟩
        case measure => simp [intOf]; omega
    · go_wp2
      go_ret
      have hk2 : k = xs.length := by omega
      subst hk2
      rw [List.take_length] at Hall
      exact ⟨_, rfl, .inl ⟨rfl, Hall.out⟩, by (repeat (first | (with_reducible assumption) | (with_reducible exact Below.refl _ _) | ((with_reducible refine Below.alloc ?_ ?hsz _); (case hsz => (first | omega | (simp; done) | (simp; omega) | (simp at *; omega)))) | ((with_reducible refine Below.setCell ?_ ?hsz _); (case hsz => (first | omega | (simp; done) | (simp; omega) | (simp at *; omega)))) | (with_reducible refine Below.drew ?_) | (with_reducible refine below_drewN ?_ _) | ((with_reducible refine Below.trans ?_ (Below.mono (by with_reducible assumption) ?hsz)); (case hsz => (first | omega | (simp; done) | (simp; omega) | (simp at *; omega))))))⟩

set_option maxHeartbeats 4000000 in
set_option maxRecDepth 20000 in
theorem deleteFunc_any (u : Value) (xs : List Int) (B : Nat) (w : World) (hBw : B ≤ w.heap.size) (hx : Ints w B u xs)
    (hcl : ∀ W, Below B w W → ∀ x ∈ xs, Calls Tryz.prog 41 #[.int .i64 x, .pointer (some ⟨bn, 0, none⟩)] W fun e w' => e = .returned (.bool (del x)) ∧ Below W.heap.size W w') :
    Calls Tryz.prog 39 #[u, .func (Fn.func 41) #[] #[.pointer (some ⟨bn, 0, none⟩)]] w fun e w' => ∃ r, e = .returned r ∧ Ints w' B r (xs.filter fun x => !del x) ∧ Below B w w' := by
  have hx0 := hx
  obtain ⟨A0, c0, rfl, hc1, hc2, hs, -⟩ := hx.form
  unfold maxLen at hc2
  go_enter Tryz.func39, Tryz.ntmps39
  go_wp2_with fail
  refine (indexDel_any (del := del) (bn := bn) _ xs B _ (hx0.keep (by (repeat (first | (with_reducible assumption) | (with_reducible exact Below.refl _ _) | ((with_reducible refine Below.alloc ?_ ?hsz _); (case hsz => (first | omega | (simp; done) | (simp; omega) | (simp at *; omega)))) | ((with_reducible refine Below.setCell ?_ ?hsz _); (case hsz => (first | omega | (simp; done) | (simp; omega) | (simp at *; omega)))) | (with_reducible refine Below.drew ?_) | (with_reducible refine below_drewN ?_ _) | ((with_reducible refine Below.trans ?_ (Below.mono (by with_reducible assumption) ?hsz)); (case hsz => (first | omega | (simp; done) | (simp; omega) | (simp at *; omega)))))))) (fun W hW x hx => hcl W ((show Below w.heap.size w W by (repeat (first | (with_reducible assumption) | (with_reducible exact Below.refl _ _) | ((with_reducible refine Below.alloc ?_ ?hsz _); (case hsz => (first | omega | (simp; done) | (simp; omega) | (simp at *; omega)))) | ((with_reducible refine Below.setCell ?_ ?hsz _); (case hsz => (first | omega | (simp; done) | (simp; omega) | (simp at *; omega)))) | (with_reducible refine Below.drew ?_) | (with_reducible refine below_drewN ?_ _) | ((with_reducible refine Below.trans ?_ (Below.mono (by with_reducible assumption) ?hsz)); (case hsz => (first | omega | (simp; done) | (simp; omega) | (simp at *; omega))))))).mono hBw) x hx)).mono ?_
  rintro e w1 ⟨r, rfl, hr, hb1⟩
  rcases hr with ⟨rfl, hall⟩ | ⟨i0, rfl, hi0, hd0, hall⟩
  · have HF := Lib.hid (show (xs.filter fun x => !del x) = xs from List.filter_eq_self.2 fun x hx => by simp [hall x hx])
    clear hall
    go_wp2
    go_ret
    exact ⟨_, rfl, by rw [HF.out]; exact hx0.keep (by (repeat (first | (with_reducible assumption) | (with_reducible exact Below.refl _ _) | ((with_reducible refine Below.alloc ?_ ?hsz _); (case hsz => (first | omega | (simp; done) | (simp; omega) | (simp at *; omega)))) | ((with_reducible refine Below.setCell ?_ ?hsz _); (case hsz => (first | omega | (simp; done) | (simp; omega) | (simp at *; omega)))) | (with_reducible refine Below.drew ?_) | (with_reducible refine below_drewN ?_ _) | ((with_reducible refine Below.trans ?_ (Below.mono (by with_reducible assumption) ?hsz)); (case hsz => (first | omega | (simp; done) | (simp; omega) | (simp at *; omega))))))), (show Below w.heap.size w w1 by (repeat (first | (with_reducible assumption) | (with_reducible exact Below.refl _ _) | ((with_reducible refine Below.alloc ?_ ?hsz _); (case hsz => (first | omega | (simp; done) | (simp; omega) | (simp at *; omega)))) | ((with_reducible refine Below.setCell ?_ ?hsz _); (case hsz => (first | omega | (simp; done) | (simp; omega) | (simp at *; omega)))) | (with_reducible refine Below.drew ?_) | (with_reducible refine below_drewN ?_ _) | ((with_reducible refine Below.trans ?_ (Below.mono (by with_reducible assumption) ?hsz)); (case hsz => (first | omega | (simp; done) | (simp; omega) | (simp at *; omega))))))).mono hBw⟩
  · obtain ⟨g, cap, hv, hR0⟩ := (hx0.keep hb1).row (by omega)
    injection hv with e1 e2 e3
    subst e1
    subst e3
    have hz1 := hb1.size
    obtain ⟨hgB, hgw⟩ := hR0.lt
    have HK0 := Lib.hid (show (xs.take (i0 + 1)).filter (fun x => !del x) = xs.take i0 by
      rw [List.take_succ_eq_append_getElem hi0, List.filter_append]
      rw [getD_at hi0] at hd0
      rw [List.filter_eq_self.2 fun x hx => by simp [hall x hx]]
      simp [hd0])
    obtain ⟨m, hm⟩ : ∃ m, xs.length = m := ⟨_, rfl⟩
    have HM := Lib.hid hm
    rw [hm] at hi0 hR0 hc1 hs ⊢
    clear hall hd0 hm
    have hne : ((i0 : Int) == -1) = false := by rw [beq_eq_false_iff_ne]; omega
    go_wp2_with fail
    try rw [hne]
    go_loopw [5, 6, 7] (fun a c v wr => ∃ (i j : Nat) (zs : List Int), a = .int .i64 i ∧ c = .int .i64 j ∧ i < j ∧ j ≤ m ∧ Row wr B g m c0 zs ∧ (xs.take j).filter (fun x => !del x) = zs.take i ∧ (∀ q, j ≤ q → zs.getD q 0 = xs.getD q 0) ∧ Below B w wr) (fun _ c _ _ => m - (intOf c).toNat)
    case atStart =>
      exact ⟨i0, i0 + 1, xs, rfl, by go_num, by omega, by omega, hR0, HK0.out, fun _ _ => rfl, (show Below w.heap.size w w1 by (repeat (first | (with_reducible assumption) | (with_reducible exact Below.refl _ _) | ((with_reducible refine Below.alloc ?_ ?hsz _); (case hsz => (first | omega | (simp; done) | (simp; omega) | (simp at *; omega)))) | ((with_reducible refine Below.setCell ?_ ?hsz _); (case hsz => (first | omega | (simp; done) | (simp; omega) | (simp at *; omega)))) | (with_reducible refine Below.drew ?_) | (with_reducible refine below_drewN ?_ _) | ((with_reducible refine Below.trans ?_ (Below.mono (by with_reducible assumption) ?hsz)); (case hsz => (first | omega | (simp; done) | (simp; omega) | (simp at *; omega))))))).mono hBw⟩
    case round =>
      obtain ⟨i, j, zs, rfl, rfl, hij, hjm, hR, hk, hq, hb⟩ := hrel
      have hz := hb.size
      have hzl := hR.len
      have hgr := hR.lt.2
      by_cases hlt : j < m
      · have hjx : j < xs.length := by have := HM.out; omega
        obtain ⟨cj, -⟩ := hR.at' j hlt
        obtain ⟨ci, fi⟩ := hR.at' i (by omega)
        rw [hq j (Nat.le_refl _), getD_at hjx] at cj
        have HQ := Lib.hid hq
        have Hk := Lib.hid hk
        have HR := Lib.hid hR
        have Ht := Lib.hid (List.take_succ_eq_append_getElem hjx)
        have hmem := List.getElem_mem hjx
        clear hq hk hR
        generalize zs.getD i 0 = old at ci
        by_cases hd : del xs[j] = true
        · have Hn := Lib.hid (show (xs.take (j + 1)).filter (fun x => !del x) = zs.take i by
            rw [Ht.out, List.filter_append, Hk.out]; simp [hd])
          go_wp2_with fail
          refine (hcl _ hb xs[j] hmem).mono ?_
          rintro e w2 ⟨rfl, hb2⟩
          rw [hd]
          have hz2 := hb2.size
          have HE := Lib.hid (And.intro (HR.out.keep hb2) (hb.trans (hb2.mono (by omega))))
          clear hd hb2
          go_wp2
          go_roundw
          case rel => exact ⟨i, j + 1, zs, rfl, by go_num, by omega, by omega, HE.out.1, Hn.out, fun q hq => HQ.out q (by omega), HE.out.2⟩
          case measure => simp [intOf]; omega
        · have hd' : del xs[j] = false := by simpa using hd
          have Hn := Lib.hid (show (xs.take (j + 1)).filter (fun x => !del x) = (zs.set i xs[j]).take (i + 1) by
            rw [Ht.out, List.filter_append, Hk.out, List.take_succ_eq_append_getElem (by rw [List.length_set]; omega), List.take_set_of_le (Nat.le_refl _)]
            simp [hd'])
          clear hd
          go_wp2_with fail
          refine (hcl _ hb xs[j] hmem).mono ?_
          rintro e w2 ⟨rfl, hb2⟩
          rw [hd']
          have hz2 := hb2.size
          have ci2 := (hb2.cell (p := ⟨g, i, none⟩) hgr).trans ci
          have fi2 := (hb2.frozen (p := ⟨g, i, none⟩) hgr).trans fi
          have HE := Lib.hid (And.intro ((HR.out.keep hb2).set i xs[j]) ((hb.trans (hb2.mono (by omega))).setCell (p := ⟨g, i, none⟩) hgB (.int .i64 xs[j])))
          have him : i < m := by omega
          clear hd' hb2 ci fi cj
          go_wp2
          go_roundw
          case rel => exact ⟨i + 1, j + 1, zs.set i xs[j], by go_num, by go_num, by omega, by omega, HE.out.1, Hn.out, fun q hq => by rw [getD_set9 _ _ _ _ (by omega)]; exact HQ.out q (by omega), HE.out.2⟩
          case measure => simp [intOf]; omega
      · obtain rfl : j = m := by omega
        rw [List.take_of_length_le (by rw [HM.out]; exact Nat.le_refl _)] at hk
        have HQ := Lib.hid hk
        obtain ⟨ZS, hZR, hZt, hZb⟩ := Row.setCells (List.replicate (j - i) 0) i hR (by simp; omega)
        rw [List.map_replicate] at hZR hZb
        have hZB := hZb w B hb hgB
        have hlen : i ≤ j := by omega
        have hfin := hZR.front hlen
        rw [hZt] at hfin
        have HFI := Lib.hid (And.intro hfin hZB)
        have hclr : ∀ ty, (Builtin.clear_ #[30] ty #[.slice (some ⟨g, i, none⟩) (j - i) (c0 - i)]).run Tryz.prog wr = .ok (.tuple #[]) (wr.setCells g i (List.replicate (j - i) (.int .i64 0))) := fun ty => by
          have h := Lib.run_clear_slice (P := Tryz.prog) wr 30 3 ty (.int .i64 0) (by kernel_rfl) (fun w => by first | rfl | (simp [go_sem]; done)) rfl rfl g i (j - i) (c0 - i) (by omega) (fun q hq => by rw [(hR.at' (i + q) (by omega)).1]; rfl) (fun q hq => (hR.at' (i + q) (by omega)).2)
          exact h
        have hcp := hR.capd
        unfold maxLen at hcp
        clear hR hk hq hZR hZt hZb hZB hfin
        go_wp2
        go_ret
        exact ⟨_, rfl, by rw [HQ.out]; exact HFI.out.1.ints, HFI.out.2⟩
end

end Go.Proofs.YtmgpekdhcghabaaGreat

/- Contracts of the functions of chapter 11 in the program: how a pipe is made again. -/
namespace Go.Proofs.YtmgpekdhcghabaaGreat
open Go.RowKit

set_option maxHeartbeats 1000000 in
set_option maxRecDepth 20000 in
theorem unitFn_any (k : Int) (p : Pp) (w : World) :
    Calls Tryz.prog 58 #[.int .i64 k, .agg #[.int .i64 p.fr, .int .i64 p.to, .int .i64 p.le, .int .i64 p.mo, .int .i64 p.co]] w fun e w' => e = .returned (.agg #[.int .i64 (unitP p).fr, .int .i64 (unitP p).to, .int .i64 (unitP p).le, .int .i64 (unitP p).mo, .int .i64 (unitP p).co]) ∧ Below w.heap.size w w' := by
  go_enter Tryz.func58, Tryz.ntmps58
  go_wp2
  all_goals refine bodyPost_ret (v := .agg #[.int .i64 (unitP p).fr, .int .i64 (unitP p).to, .int .i64 (unitP p).le, .int .i64 (unitP p).mo, .int .i64 (unitP p).co]) (by simp [results, Tryz.results58, go_sem, unitP]; try omega) rfl ⟨rfl, by (repeat (first | (with_reducible assumption) | (with_reducible exact Below.refl _ _) | ((with_reducible refine Below.alloc ?_ ?hsz _); (case hsz => (first | omega | (simp; done) | (simp; omega) | (simp at *; omega)))) | ((with_reducible refine Below.setCell ?_ ?hsz _); (case hsz => (first | omega | (simp; done) | (simp; omega) | (simp at *; omega)))) | (with_reducible refine Below.drew ?_) | (with_reducible refine below_drewN ?_ _) | ((with_reducible refine Below.trans ?_ (Below.mono (by with_reducible assumption) ?hsz)); (case hsz => (first | omega | (simp; done) | (simp; omega) | (simp at *; omega))))))⟩

end Go.Proofs.YtmgpekdhcghabaaGreat

/- Contracts of the functions of chapter 11 in the program: UnitNet, WithoutPipes. -/
namespace Go.Proofs.YtmgpekdhcghabaaGreat
open Go.RowKit

/-- what the operations yield -/
def rmUnitNetV (W : World) (ob gr L k : Nat) (fv : Value) (p q : Pp) : Nat → Value → World → Prop
  | 0, x, _ => x = .pointer (some ⟨ob, 1, none⟩)
  | 1, x, _ => x = .slice (some ⟨gr, 0, none⟩) L L
  | 2, x, _ => x = .int .i64 (k : Int)
  | 3, x, _ => x = fv
  | 4, x, _ => x = .int .i64 (k : Int)
  | 5, x, _ => x = .agg #[.int .i64 p.fr, .int .i64 p.to, .int .i64 p.le, .int .i64 p.mo, .int .i64 p.co]
  | 6, x, _ => x = .agg #[.int .i64 q.fr, .int .i64 q.to, .int .i64 q.le, .int .i64 q.mo, .int .i64 q.co]
  | 7, x, _ => x = .pointer (some ⟨gr, k * 5, none⟩)
  | 8, x, w => x = x ∧ ∃ w', Below W.heap.size W w' ∧ w = ((((w'.setCell ⟨gr, k * 5, none⟩ (.int .i64 q.fr)).setCell ⟨gr, k * 5 + 1, none⟩ (.int .i64 q.to)).setCell ⟨gr, k * 5 + 2, none⟩ (.int .i64 q.le)).setCell ⟨gr, k * 5 + 3, none⟩ (.int .i64 q.mo)).setCell ⟨gr, k * 5 + 4, none⟩ (.int .i64 q.co)
  | _, _, _ => True

set_option maxHeartbeats 8000000 in
set_option maxRecDepth 20000 in
theorem remUnit_any (n : Int) (v : Value) (ps : List Pp) (b : Nat) (w : World) (hp : Pipes w b v ps) (l7 : ps.length ≤ 7) :
    Calls Tryz.prog 46 #[.agg #[.int .i64 n, v], .func (Fn.func 58) #[] #[]] w fun e w' => ∃ s, e = .returned (.agg #[.int .i64 n, s]) ∧ Pipes w' w.heap.size s (ps.mapIdx (fun _ p => unitP p)) ∧ Below w.heap.size w w' := by
  have hp0 := hp
  obtain ⟨A, c, rfl, hc1, hc2, hs, hcell⟩ := hp.form
  unfold maxLen at hc2
  have hmk := fun W => run_make_pipes hs W
  obtain ⟨gf, hg⟩ : ∃ gf : Nat → Pp → Pp, gf = fun _ p => unitP p := ⟨_, rfl⟩
  rw [← hg]
  have HG := Lib.hid hg
  clear hg
  obtain ⟨w1, hw1⟩ : ∃ W, W = (w.alloc (.cells #[.int .i64 n, .slice A ps.length c] 25)).alloc (.cells #[.int .i64 0, .slice none 0 0] 25) := ⟨_, rfl⟩
  have hb1 : Below w.heap.size w w1 := by rw [hw1]; (repeat (first | (with_reducible assumption) | (with_reducible exact Below.refl _ _) | ((with_reducible refine Below.alloc ?_ ?hsz _); (case hsz => (first | omega | (simp; done) | (simp; omega) | (simp at *; omega)))) | ((with_reducible refine Below.setCell ?_ ?hsz _); (case hsz => (first | omega | (simp; done) | (simp; omega) | (simp at *; omega)))) | (with_reducible refine Below.drew ?_) | (with_reducible refine below_drewN ?_ _) | ((with_reducible refine Below.trans ?_ (Below.mono (by with_reducible assumption) ?hsz)); (case hsz => (first | omega | (simp; done) | (simp; omega) | (simp at *; omega))))))
  have hz1 : w.heap.size + 2 ≤ w1.heap.size := by rw [hw1]; simp
  have s00 : w.heap.size < w1.heap.size := by omega
  have s01 : w.heap.size + 1 < w1.heap.size := by omega
  have s02 : w.heap.size ≠ w1.heap.size := by omega
  have s03 : w.heap.size + 1 ≠ w1.heap.size := by omega
  have q0 : w1.cell? ⟨w.heap.size, 0, none⟩ = some (.int .i64 n) := by rw [hw1]; go_simp
  have q1 : w1.cell? ⟨w.heap.size, 1, none⟩ = some (.slice A ps.length c) := by rw [hw1]; go_simp
  have q2 : w1.cell? ⟨w.heap.size + 1, 0, none⟩ = some (.int .i64 0) := by rw [hw1]; go_simp
  have q3 : w1.cell? ⟨w.heap.size + 1, 1, none⟩ = some (.slice none 0 0) := by rw [hw1]; go_simp
  have z2 : w1.frozen? ⟨w.heap.size + 1, 0, none⟩ = false := by rw [hw1]; go_simp
  have z3 : w1.frozen? ⟨w.heap.size + 1, 1, none⟩ = false := by rw [hw1]; go_simp
  go_enter Tryz.func46, Tryz.ntmps46
  go_wp2_with fail
  rw [← hw1]
  clear hw1
  go_region
  all_goals go_wp2
  · go_loopw [18] (fun i wr => ∃ (k : Nat) (qs : List Pp), k ≤ ps.length ∧ i = .int .i64 k ∧ qs.length = ps.length ∧ qs.take k = (ps.mapIdx gf).take k ∧
        wr.ownsRow w1.heap.size 35 5 (.slice (some ⟨w1.heap.size, 0, none⟩) ps.length ps.length) ps.length (qs.flatMap Pp.cells) ∧ w1.heap.size < wr.heap.size ∧ (w1.heap.size + 1) < wr.heap.size ∧
        wr.cell? ⟨(w1.heap.size + 1), 0, none⟩ = some (.int .i64 n) ∧ wr.cell? ⟨(w1.heap.size + 1), 1, none⟩ = some (.slice (some ⟨w1.heap.size, 0, none⟩) ps.length ps.length) ∧ Below w1.heap.size w1 wr) (fun i _ => ps.length - (intOf i).toNat)
    case atStart =>
      exact ⟨0, List.replicate ps.length zeroPp, by omega, rfl, by simp, by simp, by exact (made_pipes w1 ps.length _ _ (by omega) (by omega)).alloc _, by (first | omega | (simp; done) | (simp; omega) | (simp at *; omega)), by (first | omega | (simp; done) | (simp; omega) | (simp at *; omega)), by simp, by simp, by (repeat (first | (with_reducible assumption) | (with_reducible exact Below.refl _ _) | ((with_reducible refine Below.alloc ?_ ?hsz _); (case hsz => (first | omega | (simp; done) | (simp; omega) | (simp at *; omega)))) | ((with_reducible refine Below.setCell ?_ ?hsz _); (case hsz => (first | omega | (simp; done) | (simp; omega) | (simp at *; omega)))) | (with_reducible refine Below.drew ?_) | (with_reducible refine below_drewN ?_ _) | ((with_reducible refine Below.trans ?_ (Below.mono (by with_reducible assumption) ?hsz)); (case hsz => (first | omega | (simp; done) | (simp; omega) | (simp at *; omega))))))⟩
    case round =>
      obtain ⟨k, qs, hk, rfl, hql, hqk, hown, s1, s2, d6, d7, hb⟩ := hrel
      have hbz := hb.size
      have e0 := (hb.cell (p := ⟨w.heap.size, 0, none⟩) (by (first | omega | (simp; done) | (simp; omega) | (simp at *; omega)))).trans q0
      have e1 := (hb.cell (p := ⟨w.heap.size, 1, none⟩) (by (first | omega | (simp; done) | (simp; omega) | (simp at *; omega)))).trans q1
      have e2 := (hb.cell (p := ⟨w.heap.size + 1, 0, none⟩) (by (first | omega | (simp; done) | (simp; omega) | (simp at *; omega)))).trans q2
      have e3 := (hb.cell (p := ⟨w.heap.size + 1, 1, none⟩) (by (first | omega | (simp; done) | (simp; omega) | (simp at *; omega)))).trans q3
      have f2 := (hb.frozen (p := ⟨w.heap.size + 1, 0, none⟩) (by (first | omega | (simp; done) | (simp; omega) | (simp at *; omega)))).trans z2
      have f3 := (hb.frozen (p := ⟨w.heap.size + 1, 1, none⟩) (by (first | omega | (simp; done) | (simp; omega) | (simp at *; omega)))).trans z3
      have hbw : Below w.heap.size w wr := hb1.trans (hb.mono (by omega))
      by_cases hlt : k < ps.length
      · obtain ⟨g, rfl, hg1, hg2, c0, c1, c2, c3, c4⟩ := hcell wr hbw k hlt
        have hgr : g < wr.heap.size := by omega
        have hq1 : k < qs.length := by omega
        obtain ⟨W7, hW7⟩ : ∃ W, W = wr.alloc (.cells #[.int .i64 ps[k].fr, .int .i64 ps[k].to, .int .i64 ps[k].le, .int .i64 ps[k].mo, .int .i64 ps[k].co] 35) := ⟨_, rfl⟩
        have hb77 : Below wr.heap.size wr W7 := by rw [hW7]; (repeat (first | (with_reducible assumption) | (with_reducible exact Below.refl _ _) | ((with_reducible refine Below.alloc ?_ ?hsz _); (case hsz => (first | omega | (simp; done) | (simp; omega) | (simp at *; omega)))) | ((with_reducible refine Below.setCell ?_ ?hsz _); (case hsz => (first | omega | (simp; done) | (simp; omega) | (simp at *; omega)))) | (with_reducible refine Below.drew ?_) | (with_reducible refine below_drewN ?_ _) | ((with_reducible refine Below.trans ?_ (Below.mono (by with_reducible assumption) ?hsz)); (case hsz => (first | omega | (simp; done) | (simp; omega) | (simp at *; omega))))))
        have hz7 : wr.heap.size + 1 ≤ W7.heap.size := by rw [hW7]; simp
        have hb7 : Below w1.heap.size w1 W7 := hb.trans (hb77.mono (by omega))
        have hw7 : Below w.heap.size w W7 := hb1.trans (hb7.mono (by omega))
        have p0 : W7.cell? ⟨wr.heap.size, 0, none⟩ = some (.int .i64 ps[k].fr) := by rw [hW7]; go_simp
        have p1 : W7.cell? ⟨wr.heap.size, 1, none⟩ = some (.int .i64 ps[k].to) := by rw [hW7]; go_simp
        have p2 : W7.cell? ⟨wr.heap.size, 2, none⟩ = some (.int .i64 ps[k].le) := by rw [hW7]; go_simp
        have p3 : W7.cell? ⟨wr.heap.size, 3, none⟩ = some (.int .i64 ps[k].mo) := by rw [hW7]; go_simp
        have p4 : W7.cell? ⟨wr.heap.size, 4, none⟩ = some (.int .i64 ps[k].co) := by rw [hW7]; go_simp
        have hcl : ∀ W, Below W7.heap.size W7 W → Calls Tryz.prog 58 (#[.int .i64 (k : Int), .agg #[.int .i64 ps[k].fr, .int .i64 ps[k].to, .int .i64 ps[k].le, .int .i64 ps[k].mo, .int .i64 ps[k].co]] ++ #[]) W fun e w' => e = .returned (.agg #[.int .i64 (gf k ps[k]).fr, .int .i64 (gf k ps[k]).to, .int .i64 (gf k ps[k]).le, .int .i64 (gf k ps[k]).mo, .int .i64 (gf k ps[k]).co]) ∧ Below W.heap.size W w' := by
          intro wx hB
          have hw7z := hw7.size
          have hBz := hB.size
          rw [HG.out]
          exact unitFn_any (k : Int) ps[k] wx
        have HO7 := Lib.hid (own_keep hown (Nat.le_refl _) hb77)
        have D67 := And.intro ((hb77.cell (p := ⟨(w1.heap.size + 1), 0, none⟩) s2).trans d6) ((hb77.cell (p := ⟨(w1.heap.size + 1), 1, none⟩) s2).trans d7)
        have Hql := Lib.hid hql
        have Hqk := Lib.hid hqk
        have hlz : ps.length ≤ 7 := l7
        clear hql hqk hown hb77
        go_wp2_with fail
        rw [← hW7]
        clear d6 d7 e0 e1 e2 e3 f2 f3 c0 c1 c2 c3 c4 hW7
        obtain ⟨d6, d7⟩ := D67
        refine wp_region_flowL 9 none [(0, 23), (1, 24), (2, 25), (3, 26), (4, 27), (5, 28), (6, 29), (7, 30)] (fun j x _ wx => rmUnitNetV W7 (w1.heap.size + 1) w1.heap.size ps.length k (.func (Fn.func 58) #[] #[]) ps[k] (gf k ps[k]) j x wx) (fun i wx wy => if i = 8 then True else Below wx.heap.size wx wy) (fun f wx => 1 ≤ f → Below W7.heap.size W7 wx) (by kernel_rfl) (by kernel_rfl) rfl (fun _ => ⟨rfl, rfl, rfl, Nat.le_refl _, fun _ _ => rfl⟩) ?_ ?_ ?_ ?_
        · intro i k hi hk hal x u wa wb hR hV
          have hk' : k < 9 := hk
          have hi' : i < 9 := hi
          by_cases nn : k = 8
          · subst nn
            exfalso
            rcases i with _ | _ | _ | _ | _ | _ | _ | _ | _ | i
            all_goals (first | omega | (revert hal; decide))
          · rcases k with _ | _ | _ | _ | _ | _ | _ | _ | _ | k
            all_goals first
              | exact hV
              | (exfalso; omega)
        · exact fun _ _ _ _ _ _ _ h => h
        · simp (maxSteps := 4000000) only [eachOp, fillF, List.setIfInBounds_toArray, List.set_cons_succ, List.set_cons_zero]
          refine ⟨?_, ?_, ?_, ?_, ?_, ?_, ?_, ?_, ?_, trivial⟩ <;> intro u f wx hC hd hf <;> (try simp [allV, useOf, Region.binds] at hd)
          · have hf1 : 1 ≤ f := Nat.le_trans (by decide) hf.1
            have hB := hC (by omega)
            clear hf
            have hBz := hB.size
            go_wp2
            first | exact ⟨_, rfl, rfl, Below.refl _ _, fun _ => hB⟩ | exact ⟨_, rfl, rfl, Below.refl _ _, hB⟩
          · rw [show u 0 = _ from (by first | exact hd | exact hd.1 | exact hd.2 | exact hd.2.1 | exact hd.2.2 | exact hd.2.2.1 | exact hd.2.2.2 | exact hd.2.2.2.1 | exact hd.2.2.2.2)]
            have hf1 : 1 ≤ f := Nat.le_trans (by decide) hf.1
            have hB := hC (by omega)
            clear hf
            have hBz := hB.size
            have e9 := (hB.cell (p := ⟨(w1.heap.size + 1), 1, none⟩) (by (first | omega | (simp; done) | (simp; omega) | (simp at *; omega)))).trans d7
            go_wp2
            first | exact ⟨_, rfl, rfl, Below.refl _ _, fun _ => hB⟩ | exact ⟨_, rfl, rfl, Below.refl _ _, hB⟩
          · have hf1 : 1 ≤ f := Nat.le_trans (by decide) hf.1
            have hB := hC (by omega)
            clear hf
            have hBz := hB.size
            go_wp2
            first | exact ⟨_, rfl, rfl, Below.refl _ _, fun _ => hB⟩ | exact ⟨_, rfl, rfl, Below.refl _ _, hB⟩
          · have hf1 : 1 ≤ f := Nat.le_trans (by decide) hf.1
            have hB := hC (by omega)
            clear hf
            have hBz := hB.size
            go_wp2
            first | exact ⟨_, rfl, rfl, Below.refl _ _, fun _ => hB⟩ | exact ⟨_, rfl, rfl, Below.refl _ _, hB⟩
          · have hf1 : 1 ≤ f := Nat.le_trans (by decide) hf.1
            have hB := hC (by omega)
            clear hf
            have hBz := hB.size
            go_wp2
            first | exact ⟨_, rfl, rfl, Below.refl _ _, fun _ => hB⟩ | exact ⟨_, rfl, rfl, Below.refl _ _, hB⟩
          · have hf1 : 1 ≤ f := Nat.le_trans (by decide) hf.1
            have hB := hC (by omega)
            clear hf
            have hBz := hB.size
            have e10 := (hB.cell (p := ⟨wr.heap.size, 0, none⟩) (by (first | omega | (simp; done) | (simp; omega) | (simp at *; omega)))).trans p0
            have e11 := (hB.cell (p := ⟨wr.heap.size, 1, none⟩) (by (first | omega | (simp; done) | (simp; omega) | (simp at *; omega)))).trans p1
            have e12 := (hB.cell (p := ⟨wr.heap.size, 2, none⟩) (by (first | omega | (simp; done) | (simp; omega) | (simp at *; omega)))).trans p2
            have e13 := (hB.cell (p := ⟨wr.heap.size, 3, none⟩) (by (first | omega | (simp; done) | (simp; omega) | (simp at *; omega)))).trans p3
            have e14 := (hB.cell (p := ⟨wr.heap.size, 4, none⟩) (by (first | omega | (simp; done) | (simp; omega) | (simp at *; omega)))).trans p4
            go_wp2
            first | exact ⟨_, rfl, rfl, Below.refl _ _, fun _ => hB⟩ | exact ⟨_, rfl, rfl, Below.refl _ _, hB⟩
          · rw [show u 3 = _ from (by first | exact hd | exact hd.1 | exact hd.2 | exact hd.2.1 | exact hd.2.2 | exact hd.2.2.1 | exact hd.2.2.2 | exact hd.2.2.2.1 | exact hd.2.2.2.2), show u 4 = _ from (by first | exact hd | exact hd.1 | exact hd.2 | exact hd.2.1 | exact hd.2.2 | exact hd.2.2.1 | exact hd.2.2.2 | exact hd.2.2.2.1 | exact hd.2.2.2.2), show u 5 = _ from (by first | exact hd | exact hd.1 | exact hd.2 | exact hd.2.1 | exact hd.2.2 | exact hd.2.2.1 | exact hd.2.2.2 | exact hd.2.2.2.1 | exact hd.2.2.2.2)]
            have hf1 : 1 ≤ f := Nat.le_trans (by decide) hf.1
            have hB := hC (by omega)
            clear hf
            have hBz := hB.size
            go_wp2_with fail
            refine (hcl wx hB).mono ?_
            rintro e wy ⟨rfl, hby⟩
            go_wp2
            first | exact ⟨_, rfl, rfl, hby, fun _ => hB.trans (hby.mono hBz)⟩ | exact ⟨_, rfl, rfl, hby, hB.trans (hby.mono hBz)⟩
          · rw [show u 1 = _ from (by first | exact hd | exact hd.1 | exact hd.2 | exact hd.2.1 | exact hd.2.2 | exact hd.2.2.1 | exact hd.2.2.2 | exact hd.2.2.2.1 | exact hd.2.2.2.2), show u 2 = _ from (by first | exact hd | exact hd.1 | exact hd.2 | exact hd.2.1 | exact hd.2.2 | exact hd.2.2.1 | exact hd.2.2.2 | exact hd.2.2.2.1 | exact hd.2.2.2.2)]
            have hf1 : 1 ≤ f := Nat.le_trans (by decide) hf.1
            have hB := hC (by omega)
            clear hf
            have hBz := hB.size
            go_wp2
            first | exact ⟨_, rfl, rfl, Below.refl _ _, fun _ => hB⟩ | exact ⟨_, rfl, rfl, Below.refl _ _, hB⟩
          · rw [show u 7 = _ from (by first | exact hd | exact hd.1 | exact hd.2 | exact hd.2.1 | exact hd.2.2 | exact hd.2.2.1 | exact hd.2.2.2 | exact hd.2.2.2.1 | exact hd.2.2.2.2), show u 6 = _ from (by first | exact hd | exact hd.1 | exact hd.2 | exact hd.2.1 | exact hd.2.2 | exact hd.2.2.1 | exact hd.2.2.2 | exact hd.2.2.2.1 | exact hd.2.2.2.2)]
            have hf2 := hf.2
            have hB := hC (by omega)
            clear hf
            have hBz := hB.size
            have hown9 := own_keep HO7.out (Nat.le_refl _) hB
            obtain ⟨hgx, ⟨o0, o1, o2, o3, o4⟩, hof⟩ := own_cells5 (k := k) hown9 hq1
            have k0 := hof (k * 5)
            have k1 := hof (k * 5 + 1)
            have k2 := hof (k * 5 + 2)
            have k3 := hof (k * 5 + 3)
            have k4 := hof (k * 5 + 4)
            clear hof hown9
            go_wp2
            exact ⟨undef, rfl, ⟨rfl, _, hB, rfl⟩, (if_pos rfl ▸ trivial : (if (8 : Nat) = 8 then True else _)), fun h => absurd h (by have := Nat.le_trans hf2 (by decide : _ ≤ 0); omega)⟩
        · intro u f wx hC hfin
          simp only [fillEnd, fillF, Act.put, List.setIfInBounds_toArray, List.set_cons_succ, List.set_cons_zero]
          obtain ⟨-, w9, hb9, hw9⟩ := hfin 8 (by decide) (by decide)
          subst hw9
          clear hfin hC
          have hz9 := hb9.size
          have hown9 := own_set5 (k := k) (own_keep HO7.out (Nat.le_refl _) hb9) hq1 (gf k ps[k])
          have hg9 : w1.heap.size < w9.heap.size := by omega
          have hb10 : Below w1.heap.size w1 (((((w9.setCell ⟨w1.heap.size, k * 5, none⟩ (.int .i64 (gf k ps[k]).fr)).setCell ⟨w1.heap.size, k * 5 + 1, none⟩ (.int .i64 (gf k ps[k]).to)).setCell ⟨w1.heap.size, k * 5 + 2, none⟩ (.int .i64 (gf k ps[k]).le)).setCell ⟨w1.heap.size, k * 5 + 3, none⟩ (.int .i64 (gf k ps[k]).mo)).setCell ⟨w1.heap.size, k * 5 + 4, none⟩ (.int .i64 (gf k ps[k]).co)) := (((((hb7.trans (hb9.mono (by omega))).setCell (p := ⟨w1.heap.size, k * 5, none⟩) (by (first | omega | (simp; done) | (simp; omega) | (simp at *; omega))) _).setCell (p := ⟨w1.heap.size, k * 5 + 1, none⟩) (by (first | omega | (simp; done) | (simp; omega) | (simp at *; omega))) _).setCell (p := ⟨w1.heap.size, k * 5 + 2, none⟩) (by (first | omega | (simp; done) | (simp; omega) | (simp at *; omega))) _).setCell (p := ⟨w1.heap.size, k * 5 + 3, none⟩) (by (first | omega | (simp; done) | (simp; omega) | (simp at *; omega))) _).setCell (p := ⟨w1.heap.size, k * 5 + 4, none⟩) (by (first | omega | (simp; done) | (simp; omega) | (simp at *; omega))) _
          have y0 : (((((w9.setCell ⟨w1.heap.size, k * 5, none⟩ (.int .i64 (gf k ps[k]).fr)).setCell ⟨w1.heap.size, k * 5 + 1, none⟩ (.int .i64 (gf k ps[k]).to)).setCell ⟨w1.heap.size, k * 5 + 2, none⟩ (.int .i64 (gf k ps[k]).le)).setCell ⟨w1.heap.size, k * 5 + 3, none⟩ (.int .i64 (gf k ps[k]).mo)).setCell ⟨w1.heap.size, k * 5 + 4, none⟩ (.int .i64 (gf k ps[k]).co)).cell? ⟨(w1.heap.size + 1), 0, none⟩ = some (.int .i64 n) := (World.cell?_setCell_other _ _ _ _ (by intro h; injection h with h1 h2; omega)).trans ((World.cell?_setCell_other _ _ _ _ (by intro h; injection h with h1 h2; omega)).trans ((World.cell?_setCell_other _ _ _ _ (by intro h; injection h with h1 h2; omega)).trans ((World.cell?_setCell_other _ _ _ _ (by intro h; injection h with h1 h2; omega)).trans ((World.cell?_setCell_other _ _ _ _ (by intro h; injection h with h1 h2; omega)).trans ((hb9.cell (p := ⟨(w1.heap.size + 1), 0, none⟩) (by (first | omega | (simp; done) | (simp; omega) | (simp at *; omega)))).trans d6)))))
          have y1 : (((((w9.setCell ⟨w1.heap.size, k * 5, none⟩ (.int .i64 (gf k ps[k]).fr)).setCell ⟨w1.heap.size, k * 5 + 1, none⟩ (.int .i64 (gf k ps[k]).to)).setCell ⟨w1.heap.size, k * 5 + 2, none⟩ (.int .i64 (gf k ps[k]).le)).setCell ⟨w1.heap.size, k * 5 + 3, none⟩ (.int .i64 (gf k ps[k]).mo)).setCell ⟨w1.heap.size, k * 5 + 4, none⟩ (.int .i64 (gf k ps[k]).co)).cell? ⟨(w1.heap.size + 1), 1, none⟩ = some (.slice (some ⟨w1.heap.size, 0, none⟩) ps.length ps.length) := (World.cell?_setCell_other _ _ _ _ (by intro h; injection h with h1 h2; omega)).trans ((World.cell?_setCell_other _ _ _ _ (by intro h; injection h with h1 h2; omega)).trans ((World.cell?_setCell_other _ _ _ _ (by intro h; injection h with h1 h2; omega)).trans ((World.cell?_setCell_other _ _ _ _ (by intro h; injection h with h1 h2; omega)).trans ((World.cell?_setCell_other _ _ _ _ (by intro h; injection h with h1 h2; omega)).trans ((hb9.cell (p := ⟨(w1.heap.size + 1), 1, none⟩) (by (first | omega | (simp; done) | (simp; omega) | (simp at *; omega)))).trans d7)))))
          have x1 : w1.heap.size < (((((w9.setCell ⟨w1.heap.size, k * 5, none⟩ (.int .i64 (gf k ps[k]).fr)).setCell ⟨w1.heap.size, k * 5 + 1, none⟩ (.int .i64 (gf k ps[k]).to)).setCell ⟨w1.heap.size, k * 5 + 2, none⟩ (.int .i64 (gf k ps[k]).le)).setCell ⟨w1.heap.size, k * 5 + 3, none⟩ (.int .i64 (gf k ps[k]).mo)).setCell ⟨w1.heap.size, k * 5 + 4, none⟩ (.int .i64 (gf k ps[k]).co)).heap.size := by simp only [World.size_setCell]; omega
          have x2 : (w1.heap.size + 1) < (((((w9.setCell ⟨w1.heap.size, k * 5, none⟩ (.int .i64 (gf k ps[k]).fr)).setCell ⟨w1.heap.size, k * 5 + 1, none⟩ (.int .i64 (gf k ps[k]).to)).setCell ⟨w1.heap.size, k * 5 + 2, none⟩ (.int .i64 (gf k ps[k]).le)).setCell ⟨w1.heap.size, k * 5 + 3, none⟩ (.int .i64 (gf k ps[k]).mo)).setCell ⟨w1.heap.size, k * 5 + 4, none⟩ (.int .i64 (gf k ps[k]).co)).heap.size := by simp only [World.size_setCell]; omega
          have HE := Lib.hid (And.intro hown9 (And.intro hb10 (And.intro y0 (And.intro y1 (And.intro x1 x2)))))
          clear hown9 hb10 y0 y1 x1 x2 hb9
          go_wp2
          go_roundw
          case rel => exact ⟨k + 1, qs.set k (gf k ps[k]), by omega, by go_num, by simp; exact Hql.out, set_take hq1 Hqk.out (by simp [hlt]), (by with_reducible exact HE.out.1), HE.out.2.2.2.2.1, HE.out.2.2.2.2.2, HE.out.2.2.1, HE.out.2.2.2.1, HE.out.2.1⟩
          case measure => simp [intOf]; omega
      · go_wp2
        have hk2 : k = ps.length := by omega
        subst hk2
        have hz : qs = ps.mapIdx gf := by
          rw [List.take_of_length_le (by omega), List.take_of_length_le (by simp)] at hqk
          exact hqk
        subst hz
        have hfin : Pipes wr w1.heap.size (.slice (some ⟨w1.heap.size, 0, none⟩) ps.length ps.length) (ps.mapIdx gf) := ⟨by simpa using hown, by simp [small]; omega⟩
        refine bodyPost_ret (v := .agg #[.int .i64 n, .slice (some ⟨w1.heap.size, 0, none⟩) ps.length ps.length]) (by simp [results, Tryz.results46, go_sem, e2, e3]) rfl ⟨_, rfl, ?_, by (repeat (first | (with_reducible assumption) | (with_reducible exact Below.refl _ _) | ((with_reducible refine Below.alloc ?_ ?hsz _); (case hsz => (first | omega | (simp; done) | (simp; omega) | (simp at *; omega)))) | ((with_reducible refine Below.setCell ?_ ?hsz _); (case hsz => (first | omega | (simp; done) | (simp; omega) | (simp at *; omega)))) | (with_reducible refine Below.drew ?_) | (with_reducible refine below_drewN ?_ _) | ((with_reducible refine Below.trans ?_ (Below.mono (by with_reducible assumption) ?hsz)); (case hsz => (first | omega | (simp; done) | (simp; omega) | (simp at *; omega))))))⟩
        exact ((hfin.setLow (by omega)).setLow (by omega)).mono (by omega)
  · go_loopw [18] (fun i wr => ∃ (k : Nat) (qs : List Pp), k ≤ ps.length ∧ i = .int .i64 k ∧ qs.length = ps.length ∧ qs.take k = (ps.mapIdx gf).take k ∧
        wr.ownsRow w1.heap.size 35 5 (.slice (some ⟨(w1.heap.size + 1), 0, none⟩) ps.length ps.length) ps.length (qs.flatMap Pp.cells) ∧ (w1.heap.size + 1) < wr.heap.size ∧ w1.heap.size < wr.heap.size ∧
        wr.cell? ⟨w1.heap.size, 0, none⟩ = some (.int .i64 n) ∧ wr.cell? ⟨w1.heap.size, 1, none⟩ = some (.slice (some ⟨(w1.heap.size + 1), 0, none⟩) ps.length ps.length) ∧ Below w1.heap.size w1 wr) (fun i _ => ps.length - (intOf i).toNat)
    case atStart =>
      exact ⟨0, List.replicate ps.length zeroPp, by omega, rfl, by simp, by simp, by have h := made_pipes (w1.alloc (.cells #[.int .i64 n, .slice (some ⟨w1.heap.size + 1, 0, none⟩) ps.length ps.length] 25)) ps.length 35 w1.heap.size (by (first | omega | (simp; done) | (simp; omega) | (simp at *; omega))) (by omega); rw [World.size_alloc] at h; exact h, by (first | omega | (simp; done) | (simp; omega) | (simp at *; omega)), by (first | omega | (simp; done) | (simp; omega) | (simp at *; omega)), by simp, by simp, by (repeat (first | (with_reducible assumption) | (with_reducible exact Below.refl _ _) | ((with_reducible refine Below.alloc ?_ ?hsz _); (case hsz => (first | omega | (simp; done) | (simp; omega) | (simp at *; omega)))) | ((with_reducible refine Below.setCell ?_ ?hsz _); (case hsz => (first | omega | (simp; done) | (simp; omega) | (simp at *; omega)))) | (with_reducible refine Below.drew ?_) | (with_reducible refine below_drewN ?_ _) | ((with_reducible refine Below.trans ?_ (Below.mono (by with_reducible assumption) ?hsz)); (case hsz => (first | omega | (simp; done) | (simp; omega) | (simp at *; omega))))))⟩
    case round =>
      obtain ⟨k, qs, hk, rfl, hql, hqk, hown, s1, s2, d6, d7, hb⟩ := hrel
      have hbz := hb.size
      have e0 := (hb.cell (p := ⟨w.heap.size, 0, none⟩) (by (first | omega | (simp; done) | (simp; omega) | (simp at *; omega)))).trans q0
      have e1 := (hb.cell (p := ⟨w.heap.size, 1, none⟩) (by (first | omega | (simp; done) | (simp; omega) | (simp at *; omega)))).trans q1
      have e2 := (hb.cell (p := ⟨w.heap.size + 1, 0, none⟩) (by (first | omega | (simp; done) | (simp; omega) | (simp at *; omega)))).trans q2
      have e3 := (hb.cell (p := ⟨w.heap.size + 1, 1, none⟩) (by (first | omega | (simp; done) | (simp; omega) | (simp at *; omega)))).trans q3
      have f2 := (hb.frozen (p := ⟨w.heap.size + 1, 0, none⟩) (by (first | omega | (simp; done) | (simp; omega) | (simp at *; omega)))).trans z2
      have f3 := (hb.frozen (p := ⟨w.heap.size + 1, 1, none⟩) (by (first | omega | (simp; done) | (simp; omega) | (simp at *; omega)))).trans z3
      have hbw : Below w.heap.size w wr := hb1.trans (hb.mono (by omega))
      by_cases hlt : k < ps.length
      · obtain ⟨g, rfl, hg1, hg2, c0, c1, c2, c3, c4⟩ := hcell wr hbw k hlt
        have hgr : g < wr.heap.size := by omega
        have hq1 : k < qs.length := by omega
        obtain ⟨W7, hW7⟩ : ∃ W, W = wr.alloc (.cells #[.int .i64 ps[k].fr, .int .i64 ps[k].to, .int .i64 ps[k].le, .int .i64 ps[k].mo, .int .i64 ps[k].co] 35) := ⟨_, rfl⟩
        have hb77 : Below wr.heap.size wr W7 := by rw [hW7]; (repeat (first | (with_reducible assumption) | (with_reducible exact Below.refl _ _) | ((with_reducible refine Below.alloc ?_ ?hsz _); (case hsz => (first | omega | (simp; done) | (simp; omega) | (simp at *; omega)))) | ((with_reducible refine Below.setCell ?_ ?hsz _); (case hsz => (first | omega | (simp; done) | (simp; omega) | (simp at *; omega)))) | (with_reducible refine Below.drew ?_) | (with_reducible refine below_drewN ?_ _) | ((with_reducible refine Below.trans ?_ (Below.mono (by with_reducible assumption) ?hsz)); (case hsz => (first | omega | (simp; done) | (simp; omega) | (simp at *; omega))))))
        have hz7 : wr.heap.size + 1 ≤ W7.heap.size := by rw [hW7]; simp
        have hb7 : Below w1.heap.size w1 W7 := hb.trans (hb77.mono (by omega))
        have hw7 : Below w.heap.size w W7 := hb1.trans (hb7.mono (by omega))
        have p0 : W7.cell? ⟨wr.heap.size, 0, none⟩ = some (.int .i64 ps[k].fr) := by rw [hW7]; go_simp
        have p1 : W7.cell? ⟨wr.heap.size, 1, none⟩ = some (.int .i64 ps[k].to) := by rw [hW7]; go_simp
        have p2 : W7.cell? ⟨wr.heap.size, 2, none⟩ = some (.int .i64 ps[k].le) := by rw [hW7]; go_simp
        have p3 : W7.cell? ⟨wr.heap.size, 3, none⟩ = some (.int .i64 ps[k].mo) := by rw [hW7]; go_simp
        have p4 : W7.cell? ⟨wr.heap.size, 4, none⟩ = some (.int .i64 ps[k].co) := by rw [hW7]; go_simp
        have hcl : ∀ W, Below W7.heap.size W7 W → Calls Tryz.prog 58 (#[.int .i64 (k : Int), .agg #[.int .i64 ps[k].fr, .int .i64 ps[k].to, .int .i64 ps[k].le, .int .i64 ps[k].mo, .int .i64 ps[k].co]] ++ #[]) W fun e w' => e = .returned (.agg #[.int .i64 (gf k ps[k]).fr, .int .i64 (gf k ps[k]).to, .int .i64 (gf k ps[k]).le, .int .i64 (gf k ps[k]).mo, .int .i64 (gf k ps[k]).co]) ∧ Below W.heap.size W w' := by
          intro wx hB
          have hw7z := hw7.size
          have hBz := hB.size
          rw [HG.out]
          exact unitFn_any (k : Int) ps[k] wx
        have HO7 := Lib.hid (own_keep hown (Nat.le_refl _) hb77)
        have D67 := And.intro ((hb77.cell (p := ⟨w1.heap.size, 0, none⟩) s2).trans d6) ((hb77.cell (p := ⟨w1.heap.size, 1, none⟩) s2).trans d7)
        have Hql := Lib.hid hql
        have Hqk := Lib.hid hqk
        have hlz : ps.length ≤ 7 := l7
        clear hql hqk hown hb77
        go_wp2_with fail
        rw [← hW7]
        clear d6 d7 e0 e1 e2 e3 f2 f3 c0 c1 c2 c3 c4 hW7
        obtain ⟨d6, d7⟩ := D67
        refine wp_region_flowL 9 none [(0, 23), (1, 24), (2, 25), (3, 26), (4, 27), (5, 28), (6, 29), (7, 30)] (fun j x _ wx => rmUnitNetV W7 w1.heap.size (w1.heap.size + 1) ps.length k (.func (Fn.func 58) #[] #[]) ps[k] (gf k ps[k]) j x wx) (fun i wx wy => if i = 8 then True else Below wx.heap.size wx wy) (fun f wx => 1 ≤ f → Below W7.heap.size W7 wx) (by kernel_rfl) (by kernel_rfl) rfl (fun _ => ⟨rfl, rfl, rfl, Nat.le_refl _, fun _ _ => rfl⟩) ?_ ?_ ?_ ?_
        · intro i k hi hk hal x u wa wb hR hV
          have hk' : k < 9 := hk
          have hi' : i < 9 := hi
          by_cases nn : k = 8
          · subst nn
            exfalso
            rcases i with _ | _ | _ | _ | _ | _ | _ | _ | _ | i
            all_goals (first | omega | (revert hal; decide))
          · rcases k with _ | _ | _ | _ | _ | _ | _ | _ | _ | k
            all_goals first
              | exact hV
              | (exfalso; omega)
        · exact fun _ _ _ _ _ _ _ h => h
        · simp (maxSteps := 4000000) only [eachOp, fillF, List.setIfInBounds_toArray, List.set_cons_succ, List.set_cons_zero]
          refine ⟨?_, ?_, ?_, ?_, ?_, ?_, ?_, ?_, ?_, trivial⟩ <;> intro u f wx hC hd hf <;> (try simp [allV, useOf, Region.binds] at hd)
          · have hf1 : 1 ≤ f := Nat.le_trans (by decide) hf.1
            have hB := hC (by omega)
            clear hf
            have hBz := hB.size
            go_wp2
            first | exact ⟨_, rfl, rfl, Below.refl _ _, fun _ => hB⟩ | exact ⟨_, rfl, rfl, Below.refl _ _, hB⟩
          · rw [show u 0 = _ from (by first | exact hd | exact hd.1 | exact hd.2 | exact hd.2.1 | exact hd.2.2 | exact hd.2.2.1 | exact hd.2.2.2 | exact hd.2.2.2.1 | exact hd.2.2.2.2)]
            have hf1 : 1 ≤ f := Nat.le_trans (by decide) hf.1
            have hB := hC (by omega)
            clear hf
            have hBz := hB.size
            have e9 := (hB.cell (p := ⟨w1.heap.size, 1, none⟩) (by (first | omega | (simp; done) | (simp; omega) | (simp at *; omega)))).trans d7
            go_wp2
            first | exact ⟨_, rfl, rfl, Below.refl _ _, fun _ => hB⟩ | exact ⟨_, rfl, rfl, Below.refl _ _, hB⟩
          · have hf1 : 1 ≤ f := Nat.le_trans (by decide) hf.1
            have hB := hC (by omega)
            clear hf
            have hBz := hB.size
            go_wp2
            first | exact ⟨_, rfl, rfl, Below.refl _ _, fun _ => hB⟩ | exact ⟨_, rfl, rfl, Below.refl _ _, hB⟩
          · have hf1 : 1 ≤ f := Nat.le_trans (by decide) hf.1
            have hB := hC (by omega)
            clear hf
            have hBz := hB.size
            go_wp2
            first | exact ⟨_, rfl, rfl, Below.refl _ _, fun _ => hB⟩ | exact ⟨_, rfl, rfl, Below.refl _ _, hB⟩
          · have hf1 : 1 ≤ f := Nat.le_trans (by decide) hf.1
            have hB := hC (by omega)
            clear hf
            have hBz := hB.size
            go_wp2
            first | exact ⟨_, rfl, rfl, Below.refl _ _, fun _ => hB⟩ | exact ⟨_, rfl, rfl, Below.refl _ _, hB⟩
          · have hf1 : 1 ≤ f := Nat.le_trans (by decide) hf.1
            have hB := hC (by omega)
            clear hf
            have hBz := hB.size
            have e10 := (hB.cell (p := ⟨wr.heap.size, 0, none⟩) (by (first | omega | (simp; done) | (simp; omega) | (simp at *; omega)))).trans p0
            have e11 := (hB.cell (p := ⟨wr.heap.size, 1, none⟩) (by (first | omega | (simp; done) | (simp; omega) | (simp at *; omega)))).trans p1
            have e12 := (hB.cell (p := ⟨wr.heap.size, 2, none⟩) (by (first | omega | (simp; done) | (simp; omega) | (simp at *; omega)))).trans p2
            have e13 := (hB.cell (p := ⟨wr.heap.size, 3, none⟩) (by (first | omega | (simp; done) | (simp; omega) | (simp at *; omega)))).trans p3
            have e14 := (hB.cell (p := ⟨wr.heap.size, 4, none⟩) (by (first | omega | (simp; done) | (simp; omega) | (simp at *; omega)))).trans p4
            go_wp2
            first | exact ⟨_, rfl, rfl, Below.refl _ _, fun _ => hB⟩ | exact ⟨_, rfl, rfl, Below.refl _ _, hB⟩
          · rw [show u 3 = _ from (by first | exact hd | exact hd.1 | exact hd.2 | exact hd.2.1 | exact hd.2.2 | exact hd.2.2.1 | exact hd.2.2.2 | exact hd.2.2.2.1 | exact hd.2.2.2.2), show u 4 = _ from (by first | exact hd | exact hd.1 | exact hd.2 | exact hd.2.1 | exact hd.2.2 | exact hd.2.2.1 | exact hd.2.2.2 | exact hd.2.2.2.1 | exact hd.2.2.2.2), show u 5 = _ from (by first | exact hd | exact hd.1 | exact hd.2 | exact hd.2.1 | exact hd.2.2 | exact hd.2.2.1 | exact hd.2.2.2 | exact hd.2.2.2.1 | exact hd.2.2.2.2)]
            have hf1 : 1 ≤ f := Nat.le_trans (by decide) hf.1
            have hB := hC (by omega)
            clear hf
            have hBz := hB.size
            go_wp2_with fail
            refine (hcl wx hB).mono ?_
            rintro e wy ⟨rfl, hby⟩
            go_wp2
            first | exact ⟨_, rfl, rfl, hby, fun _ => hB.trans (hby.mono hBz)⟩ | exact ⟨_, rfl, rfl, hby, hB.trans (hby.mono hBz)⟩
          · rw [show u 1 = _ from (by first | exact hd | exact hd.1 | exact hd.2 | exact hd.2.1 | exact hd.2.2 | exact hd.2.2.1 | exact hd.2.2.2 | exact hd.2.2.2.1 | exact hd.2.2.2.2), show u 2 = _ from (by first | exact hd | exact hd.1 | exact hd.2 | exact hd.2.1 | exact hd.2.2 | exact hd.2.2.1 | exact hd.2.2.2 | exact hd.2.2.2.1 | exact hd.2.2.2.2)]
            have hf1 : 1 ≤ f := Nat.le_trans (by decide) hf.1
            have hB := hC (by omega)
            clear hf
            have hBz := hB.size
            go_wp2
            first | exact ⟨_, rfl, rfl, Below.refl _ _, fun _ => hB⟩ | exact ⟨_, rfl, rfl, Below.refl _ _, hB⟩
          · rw [show u 7 = _ from (by first | exact hd | exact hd.1 | exact hd.2 | exact hd.2.1 | exact hd.2.2 | exact hd.2.2.1 | exact hd.2.2.2 | exact hd.2.2.2.1 | exact hd.2.2.2.2), show u 6 = _ from (by first | exact hd | exact hd.1 | exact hd.2 | exact hd.2.1 | exact hd.2.2 | exact hd.2.2.1 | exact hd.2.2.2 | exact hd.2.2.2.1 | exact hd.2.2.2.2)]
            have hf2 := hf.2
            have hB := hC (by omega)
            clear hf
            have hBz := hB.size
            have hown9 := own_keep HO7.out (Nat.le_refl _) hB
            obtain ⟨hgx, ⟨o0, o1, o2, o3, o4⟩, hof⟩ := own_cells5 (k := k) hown9 hq1
            have k0 := hof (k * 5)
            have k1 := hof (k * 5 + 1)
            have k2 := hof (k * 5 + 2)
            have k3 := hof (k * 5 + 3)
            have k4 := hof (k * 5 + 4)
            clear hof hown9
            go_wp2
            exact ⟨undef, rfl, ⟨rfl, _, hB, rfl⟩, (if_pos rfl ▸ trivial : (if (8 : Nat) = 8 then True else _)), fun h => absurd h (by have := Nat.le_trans hf2 (by decide : _ ≤ 0); omega)⟩
        · intro u f wx hC hfin
          simp only [fillEnd, fillF, Act.put, List.setIfInBounds_toArray, List.set_cons_succ, List.set_cons_zero]
          obtain ⟨-, w9, hb9, hw9⟩ := hfin 8 (by decide) (by decide)
          subst hw9
          clear hfin hC
          have hz9 := hb9.size
          have hown9 := own_set5 (k := k) (own_keep HO7.out (Nat.le_refl _) hb9) hq1 (gf k ps[k])
          have hg9 : (w1.heap.size + 1) < w9.heap.size := by omega
          have hb10 : Below w1.heap.size w1 (((((w9.setCell ⟨(w1.heap.size + 1), k * 5, none⟩ (.int .i64 (gf k ps[k]).fr)).setCell ⟨(w1.heap.size + 1), k * 5 + 1, none⟩ (.int .i64 (gf k ps[k]).to)).setCell ⟨(w1.heap.size + 1), k * 5 + 2, none⟩ (.int .i64 (gf k ps[k]).le)).setCell ⟨(w1.heap.size + 1), k * 5 + 3, none⟩ (.int .i64 (gf k ps[k]).mo)).setCell ⟨(w1.heap.size + 1), k * 5 + 4, none⟩ (.int .i64 (gf k ps[k]).co)) := (((((hb7.trans (hb9.mono (by omega))).setCell (p := ⟨(w1.heap.size + 1), k * 5, none⟩) (by (first | omega | (simp; done) | (simp; omega) | (simp at *; omega))) _).setCell (p := ⟨(w1.heap.size + 1), k * 5 + 1, none⟩) (by (first | omega | (simp; done) | (simp; omega) | (simp at *; omega))) _).setCell (p := ⟨(w1.heap.size + 1), k * 5 + 2, none⟩) (by (first | omega | (simp; done) | (simp; omega) | (simp at *; omega))) _).setCell (p := ⟨(w1.heap.size + 1), k * 5 + 3, none⟩) (by (first | omega | (simp; done) | (simp; omega) | (simp at *; omega))) _).setCell (p := ⟨(w1.heap.size + 1), k * 5 + 4, none⟩) (by (first | omega | (simp; done) | (simp; omega) | (simp at *; omega))) _
          have y0 : (((((w9.setCell ⟨(w1.heap.size + 1), k * 5, none⟩ (.int .i64 (gf k ps[k]).fr)).setCell ⟨(w1.heap.size + 1), k * 5 + 1, none⟩ (.int .i64 (gf k ps[k]).to)).setCell ⟨(w1.heap.size + 1), k * 5 + 2, none⟩ (.int .i64 (gf k ps[k]).le)).setCell ⟨(w1.heap.size + 1), k * 5 + 3, none⟩ (.int .i64 (gf k ps[k]).mo)).setCell ⟨(w1.heap.size + 1), k * 5 + 4, none⟩ (.int .i64 (gf k ps[k]).co)).cell? ⟨w1.heap.size, 0, none⟩ = some (.int .i64 n) := (World.cell?_setCell_other _ _ _ _ (by intro h; injection h with h1 h2; omega)).trans ((World.cell?_setCell_other _ _ _ _ (by intro h; injection h with h1 h2; omega)).trans ((World.cell?_setCell_other _ _ _ _ (by intro h; injection h with h1 h2; omega)).trans ((World.cell?_setCell_other _ _ _ _ (by intro h; injection h with h1 h2; omega)).trans ((World.cell?_setCell_other _ _ _ _ (by intro h; injection h with h1 h2; omega)).trans ((hb9.cell (p := ⟨w1.heap.size, 0, none⟩) (by (first | omega | (simp; done) | (simp; omega) | (simp at *; omega)))).trans d6)))))
          have y1 : (((((w9.setCell ⟨(w1.heap.size + 1), k * 5, none⟩ (.int .i64 (gf k ps[k]).fr)).setCell ⟨(w1.heap.size + 1), k * 5 + 1, none⟩ (.int .i64 (gf k ps[k]).to)).setCell ⟨(w1.heap.size + 1), k * 5 + 2, none⟩ (.int .i64 (gf k ps[k]).le)).setCell ⟨(w1.heap.size + 1), k * 5 + 3, none⟩ (.int .i64 (gf k ps[k]).mo)).setCell ⟨(w1.heap.size + 1), k * 5 + 4, none⟩ (.int .i64 (gf k ps[k]).co)).cell? ⟨w1.heap.size, 1, none⟩ = some (.slice (some ⟨(w1.heap.size + 1), 0, none⟩) ps.length ps.length) := (World.cell?_setCell_other _ _ _ _ (by intro h; injection h with h1 h2; omega)).trans ((World.cell?_setCell_other _ _ _ _ (by intro h; injection h with h1 h2; omega)).trans ((World.cell?_setCell_other _ _ _ _ (by intro h; injection h with h1 h2; omega)).trans ((World.cell?_setCell_other _ _ _ _ (by intro h; injection h with h1 h2; omega)).trans ((World.cell?_setCell_other _ _ _ _ (by intro h; injection h with h1 h2; omega)).trans ((hb9.cell (p := ⟨w1.heap.size, 1, none⟩) (by (first | omega | (simp; done) | (simp; omega) | (simp at *; omega)))).trans d7)))))
          have x1 : (w1.heap.size + 1) < (((((w9.setCell ⟨(w1.heap.size + 1), k * 5, none⟩ (.int .i64 (gf k ps[k]).fr)).setCell ⟨(w1.heap.size + 1), k * 5 + 1, none⟩ (.int .i64 (gf k ps[k]).to)).setCell ⟨(w1.heap.size + 1), k * 5 + 2, none⟩ (.int .i64 (gf k ps[k]).le)).setCell ⟨(w1.heap.size + 1), k * 5 + 3, none⟩ (.int .i64 (gf k ps[k]).mo)).setCell ⟨(w1.heap.size + 1), k * 5 + 4, none⟩ (.int .i64 (gf k ps[k]).co)).heap.size := by simp only [World.size_setCell]; omega
          have x2 : w1.heap.size < (((((w9.setCell ⟨(w1.heap.size + 1), k * 5, none⟩ (.int .i64 (gf k ps[k]).fr)).setCell ⟨(w1.heap.size + 1), k * 5 + 1, none⟩ (.int .i64 (gf k ps[k]).to)).setCell ⟨(w1.heap.size + 1), k * 5 + 2, none⟩ (.int .i64 (gf k ps[k]).le)).setCell ⟨(w1.heap.size + 1), k * 5 + 3, none⟩ (.int .i64 (gf k ps[k]).mo)).setCell ⟨(w1.heap.size + 1), k * 5 + 4, none⟩ (.int .i64 (gf k ps[k]).co)).heap.size := by simp only [World.size_setCell]; omega
          have HE := Lib.hid (And.intro hown9 (And.intro hb10 (And.intro y0 (And.intro y1 (And.intro x1 x2)))))
          clear hown9 hb10 y0 y1 x1 x2 hb9
          go_wp2
          go_roundw
          case rel => exact ⟨k + 1, qs.set k (gf k ps[k]), by omega, by go_num, by simp; exact Hql.out, set_take hq1 Hqk.out (by simp [hlt]), (by with_reducible exact HE.out.1), HE.out.2.2.2.2.1, HE.out.2.2.2.2.2, HE.out.2.2.1, HE.out.2.2.2.1, HE.out.2.1⟩
          case measure => simp [intOf]; omega
      · go_wp2
        have hk2 : k = ps.length := by omega
        subst hk2
        have hz : qs = ps.mapIdx gf := by
          rw [List.take_of_length_le (by omega), List.take_of_length_le (by simp)] at hqk
          exact hqk
        subst hz
        have hfin : Pipes wr w1.heap.size (.slice (some ⟨(w1.heap.size + 1), 0, none⟩) ps.length ps.length) (ps.mapIdx gf) := ⟨by simpa using hown, by simp [small]; omega⟩
        refine bodyPost_ret (v := .agg #[.int .i64 n, .slice (some ⟨(w1.heap.size + 1), 0, none⟩) ps.length ps.length]) (by simp [results, Tryz.results46, go_sem, e2, e3]) rfl ⟨_, rfl, ?_, by (repeat (first | (with_reducible assumption) | (with_reducible exact Below.refl _ _) | ((with_reducible refine Below.alloc ?_ ?hsz _); (case hsz => (first | omega | (simp; done) | (simp; omega) | (simp at *; omega)))) | ((with_reducible refine Below.setCell ?_ ?hsz _); (case hsz => (first | omega | (simp; done) | (simp; omega) | (simp at *; omega)))) | (with_reducible refine Below.drew ?_) | (with_reducible refine below_drewN ?_ _) | ((with_reducible refine Below.trans ?_ (Below.mono (by with_reducible assumption) ?hsz)); (case hsz => (first | omega | (simp; done) | (simp; omega) | (simp at *; omega))))))⟩
        exact ((hfin.setLow (by omega)).setLow (by omega)).mono (by omega)

set_option maxHeartbeats 1000000 in
set_option maxRecDepth 20000 in
theorem unitNet_any (n : Int) (v : Value) (ps : List Pp) (b : Nat) (w : World) (hp : Pipes w b v ps) :
    Calls Tryz.prog 27 #[.agg #[.int .i64 n, v]] w fun e w' => ∃ s, e = .returned (.agg #[.int .i64 (unitN n ps), s]) ∧ Pipes w' w.heap.size s (unitL n ps) ∧ Below w.heap.size w w' := by
  have hp0 := hp
  obtain ⟨A, c, rfl, hc1, hc2, hs, hcell⟩ := hp.form
  unfold maxLen at hc2
  go_enter Tryz.func27, Tryz.ntmps27
  go_wp2_with (first
    | (go_at_call 42; ((with_reducible refine (netOk_any n _ ps b _ (hp0.keep (by (repeat (first | (with_reducible assumption) | (with_reducible exact Below.refl _ _) | ((with_reducible refine Below.alloc ?_ ?hsz _); (case hsz => (first | omega | (simp; done) | (simp; omega) | (simp at *; omega)))) | ((with_reducible refine Below.setCell ?_ ?hsz _); (case hsz => (first | omega | (simp; done) | (simp; omega) | (simp at *; omega)))) | (with_reducible refine Below.drew ?_) | (with_reducible refine below_drewN ?_ _) | ((with_reducible refine Below.trans ?_ (Below.mono (by with_reducible assumption) ?hsz)); (case hsz => (first | omega | (simp; done) | (simp; omega) | (simp at *; omega))))))))).mono ?_); rintro e w1 ⟨rfl, hb1⟩; obtain ⟨hc1, hf1, hz1⟩ := bcell hb1; (try simp at hz1); (try have hy1 : w.heap.size < w1.heap.size := by omega); (try have hy2 : w.heap.size + 1 < w1.heap.size := by omega); (try have hy3 : w.heap.size + 1 + 1 < w1.heap.size := by omega))))
  · have hno := unit_no (of_not_t (b := netOkB n ps) (by assumption))
    refine bodyPost_ret (v := .agg #[.int .i64 0, .slice none 0 0]) (by simp [results, Tryz.results27, go_sem, hc1]) rfl ⟨.slice none 0 0, by rw [hno.1], by rw [hno.2]; exact Pipes_nil _ _, by (repeat (first | (with_reducible assumption) | (with_reducible exact Below.refl _ _) | ((with_reducible refine Below.alloc ?_ ?hsz _); (case hsz => (first | omega | (simp; done) | (simp; omega) | (simp at *; omega)))) | ((with_reducible refine Below.setCell ?_ ?hsz _); (case hsz => (first | omega | (simp; done) | (simp; omega) | (simp at *; omega)))) | (with_reducible refine Below.drew ?_) | (with_reducible refine below_drewN ?_ _) | ((with_reducible refine Below.trans ?_ (Below.mono (by with_reducible assumption) ?hsz)); (case hsz => (first | omega | (simp; done) | (simp; omega) | (simp at *; omega))))))⟩
  · have hyes := Lib.hid (unit_yes (of_not (b := netOkB n ps) (by assumption)))
    have l7 := (netOk_parts (of_not (b := netOkB n ps) (by assumption))).2.2.1
    have hz1 : w.heap.size ≤ w1.heap.size := by (first | omega | (simp; done) | (simp; omega) | (simp at *; omega))
    refine (remUnit_any n _ ps b _ (hp0.keep (by (repeat (first | (with_reducible assumption) | (with_reducible exact Below.refl _ _) | ((with_reducible refine Below.alloc ?_ ?hsz _); (case hsz => (first | omega | (simp; done) | (simp; omega) | (simp at *; omega)))) | ((with_reducible refine Below.setCell ?_ ?hsz _); (case hsz => (first | omega | (simp; done) | (simp; omega) | (simp at *; omega)))) | (with_reducible refine Below.drew ?_) | (with_reducible refine below_drewN ?_ _) | ((with_reducible refine Below.trans ?_ (Below.mono (by with_reducible assumption) ?hsz)); (case hsz => (first | omega | (simp; done) | (simp; omega) | (simp at *; omega)))))))) l7).mono ?_
    rintro e w2 ⟨s, rfl, hq, hb2⟩
    rw [mapIdx_map] at hq
    obtain ⟨A2, c2, hs2, -, -, -, -⟩ := hq.form
    rw [List.length_map] at hs2
    subst hs2
    obtain ⟨hc3, hf3, hz3⟩ := bcell hb2
    have y0 : w2.cell? ⟨w.heap.size + 1, 0, none⟩ = some (.int .i64 0) := (hc3 _ _ (by (first | omega | (simp; done) | (simp; omega) | (simp at *; omega)))).trans ((hc1 _ _ (by (first | omega | (simp; done) | (simp; omega) | (simp at *; omega)))).trans (by simp))
    have y1 : w2.cell? ⟨w.heap.size + 1, 1, none⟩ = some (.slice none 0 0) := (hc3 _ _ (by (first | omega | (simp; done) | (simp; omega) | (simp at *; omega)))).trans ((hc1 _ _ (by (first | omega | (simp; done) | (simp; omega) | (simp at *; omega)))).trans (by simp))
    go_wp2
    refine bodyPost_ret (v := .agg #[.int .i64 n, .slice A2 ps.length c2]) (by simp [results, Tryz.results27, go_sem, y0, y1]) rfl ⟨_, by rw [hyes.out.1], ?_, by (repeat (first | (with_reducible assumption) | (with_reducible exact Below.refl _ _) | ((with_reducible refine Below.alloc ?_ ?hsz _); (case hsz => (first | omega | (simp; done) | (simp; omega) | (simp at *; omega)))) | ((with_reducible refine Below.setCell ?_ ?hsz _); (case hsz => (first | omega | (simp; done) | (simp; omega) | (simp at *; omega)))) | (with_reducible refine Below.drew ?_) | (with_reducible refine below_drewN ?_ _) | ((with_reducible refine Below.trans ?_ (Below.mono (by with_reducible assumption) ?hsz)); (case hsz => (first | omega | (simp; done) | (simp; omega) | (simp at *; omega))))))⟩
    rw [hyes.out.2]
    exact ((hq.setLow (by (first | omega | (simp; done) | (simp; omega) | (simp at *; omega)))).setLow (by (first | omega | (simp; done) | (simp; omega) | (simp at *; omega)))).mono (by (first | omega | (simp; done) | (simp; omega) | (simp at *; omega)))

end Go.Proofs.YtmgpekdhcghabaaGreat
