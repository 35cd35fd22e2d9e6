/- Contracts of the laws' draws of chapter 10: a net, a flow and needs. -/
import Derived.Test.YtphbmlephldaaaaGQ7
import Derived.Test.YtphbmlephldaaaaZB
import Derived.Test.YtphbmlephldaaaaO1
namespace Go.Proofs.Ytphbmlephldaaaa
open Go.RowKit

theorem Box2.low {w w' : World} {g L : Nat} {u0 u1 : Value} (h : Box2 w g u0 u1) (hb : Below L w w') (hg : g < L) : Box2 w' g u0 u1 := by
  obtain ⟨h0, h1, h2, h3, h4⟩ := h
  exact ⟨Nat.lt_of_lt_of_le h0 hb.size, (hb.cell (p := ⟨g, _, none⟩) hg).trans h1, (hb.cell (p := ⟨g, _, none⟩) hg).trans h2, (hb.frozen (p := ⟨g, _, none⟩) hg).trans h3, (hb.frozen (p := ⟨g, _, none⟩) hg).trans h4⟩

/-- what is known of the world while a flow is drawn -/
structure FdSt (w : World) (rg m c nb b : Nat) (A : Option Addr) (z : Int) (S O : Value) (ps : List Pp) (nd : List Int) (K : Nat) (wx : World) : Prop where
  rd : Rd wx rg A m c K
  be : Below w.heap.size w wx
  pi : Pipes wx b S ps
  od : Ints wx b O nd
  nb : Box2 wx nb (.int .i64 z) S
  rb : Box2 wx w.heap.size (.int .i64 0) (.slice none 0 0)

section
variable {w wx wy : World} {rg m c nb b K L : Nat} {A : Option Addr} {z : Int} {S O : Value} {ps : List Pp} {nd : List Int}
theorem FdSt.more (h : FdSt w rg m c nb b A z S O ps nd K wx) {K' : Nat} (hK : K ≤ K') : FdSt w rg m c nb b A z S O ps nd K' wx := ⟨h.rd.more hK, h.be, h.pi, h.od, h.nb, h.rb⟩
theorem FdSt.pick (h : FdSt w rg m c nb b A z S O ps nd K wx) (hg : wx.grownBy wy (some rg)) {K' : Nat} (hr : Rd wy rg A m c K') (h1 : w.heap.size < rg) (h2 : rg < b) (h3 : rg < nb) : FdSt w rg m c nb b A z S O ps nd K' wy :=
  ⟨hr, h.be.trans (below_grow (B := w.heap.size) hg h.be.size (fun q hq => by injection hq with hq; omega)), h.pi.grown hg h2, h.od.grown hg h2, h.nb.grown hg (fun e => by injection e with e; omega), h.rb.grown hg (fun e => by injection e with e; omega)⟩
theorem FdSt.low (h : FdSt w rg m c nb b A z S O ps nd K wx) (hL : Below L wx wy) (h0 : w.heap.size < L) (h1 : rg < L) (h2 : nb < L) (hS : ∀ q, S.ownBlock = some q → q < L) (hO : ∀ q, O.ownBlock = some q → q < L) : FdSt w rg m c nb b A z S O ps nd K wy :=
  ⟨h.rd.low (hL.mono (by omega)), h.be.trans (hL.mono (by omega)), h.pi.under hS hL, h.od.under hO hL, h.nb.low hL h2, h.rb.low hL h0⟩
end

/-- what a draw of a net, a flow and needs leaves -/
def DrawnFeeds (w : World) (e : Ending) (w' : World) : Prop :=
  ∃ (z : Int) (ps : List Pp) (u f o : Value) (xs nd : List Int), e = .returned (.tuple #[.agg #[.int .i64 z, u], f, o]) ∧ Pipes w' w.heap.size u ps ∧ Ints w' w.heap.size f xs ∧ Ints w' w.heap.size o nd ∧ Below w.heap.size w w' ∧ ps.length ≤ 8 ∧ 1 ≤ z ∧ z ≤ 6 ∧ nd.length ≤ 6 ∧ ∀ x ∈ nd, -1000 ≤ x ∧ x ≤ 1000

set_option maxHeartbeats 8000000 in
set_option maxRecDepth 20000 in
theorem drawFeedsOk_any (v : Value) (n : Nat) (w : World) (h : ArgBytes w v n) : Calls Try.prog 37 #[v] w (DrawnFeeds w) := by
  have bx0 := Box2.new w (.int .i64 0) (.slice none 0 0) 25
  go_enter Try.func37, Try.ntmps37
  go_wp2_with fail
  refine (l20Open_any v n _ (h.keep (by (repeat (first | (with_reducible assumption) | (with_reducible exact Below.refl _ _) | ((with_reducible refine Below.alloc ?_ ?hsz _); (case hsz => (first | omega | (simp; done) | (simp; omega) | (simp at *; omega)))) | ((with_reducible refine Below.setCell ?_ ?hsz _); (case hsz => (first | omega | (simp; done) | (simp; omega) | (simp at *; omega)))) | (with_reducible refine Below.drew ?_) | (with_reducible refine below_drewN ?_ _) | ((with_reducible refine Below.trans ?_ (Below.mono (by with_reducible assumption) ?hsz)); (case hsz => (first | omega | (simp; done) | (simp; omega) | (simp at *; omega))))))))).mono ?_
  rintro e w1 ⟨A, m, c, rfl, hr1, hb1, hz1⟩
  have bx1 := bx0.keep (hb1.mono (by simp))
  rw [World.size_alloc] at hr1 hz1
  have hgo : Below w.heap.size w w1 := by (repeat (first | (with_reducible assumption) | (with_reducible exact Below.refl _ _) | ((with_reducible refine Below.alloc ?_ ?hsz _); (case hsz => (first | omega | (simp; done) | (simp; omega) | (simp at *; omega)))) | ((with_reducible refine Below.setCell ?_ ?hsz _); (case hsz => (first | omega | (simp; done) | (simp; omega) | (simp at *; omega)))) | (with_reducible refine Below.drew ?_) | (with_reducible refine below_drewN ?_ _) | ((with_reducible refine Below.trans ?_ (Below.mono (by with_reducible assumption) ?hsz)); (case hsz => (first | omega | (simp; done) | (simp; omega) | (simp at *; omega))))))
  go_wp2_with fail
  with_reducible refine (l20Needs_any (w.heap.size + 1) m c 0 A _ hr1 (by omega)).mono ?_
  rintro e w2 ⟨z, ps, u, o, nd, rfl, hp2, ho2, hr2, hg2, hl8, hzl, hzh, hn6, hnb, hbd⟩
  have bx2 := bx1.grown hg2 (by simp)
  have hs2 := hg2.size
  have hb2 : Below w.heap.size w w2 := hgo.trans (below_grow hg2 (by omega) (fun q hq => by injection hq with hq; omega))
  have hSb : ∀ q, u.ownBlock = some q → q < w2.heap.size := fun q hq => (hp2.1.lt q hq).2
  have hOb : ∀ q, o.ownBlock = some q → q < w2.heap.size := fun q hq => (ho2.1.lt q hq).2
  obtain ⟨PA, pc, rfl, hc1, hc2, hsm, -⟩ := hp2.form
  obtain ⟨OA, oc, rfl, hd1, hd2, hsn, -⟩ := ho2.form
  unfold maxLen at hc2 hd2
  obtain ⟨rg, hrg⟩ : ∃ rg, rg = w.heap.size + 1 := ⟨_, rfl⟩
  rw [← hrg] at hr2
  obtain ⟨W3, hW3⟩ : ∃ W3, W3 = w2.alloc (.cells #[.int .i64 z, .slice PA ps.length pc] 25) := ⟨_, rfl⟩
  have hal : Below w2.heap.size w2 W3 := by rw [hW3]; (repeat (first | (with_reducible assumption) | (with_reducible exact Below.refl _ _) | ((with_reducible refine Below.alloc ?_ ?hsz _); (case hsz => (first | omega | (simp; done) | (simp; omega) | (simp at *; omega)))) | ((with_reducible refine Below.setCell ?_ ?hsz _); (case hsz => (first | omega | (simp; done) | (simp; omega) | (simp at *; omega)))) | (with_reducible refine Below.drew ?_) | (with_reducible refine below_drewN ?_ _) | ((with_reducible refine Below.trans ?_ (Below.mono (by with_reducible assumption) ?hsz)); (case hsz => (first | omega | (simp; done) | (simp; omega) | (simp at *; omega))))))
  have st3 : FdSt w rg m c w2.heap.size w1.heap.size A z (.slice PA ps.length pc) (.slice OA nd.length oc) ps nd 4000 W3 := by
    refine ⟨(hr2.more (by omega)).keep hal, hb2.trans (hal.mono hb2.size), hp2.keep hal, ho2.keep hal, ?_, bx2.keep hal⟩
    rw [hW3]
    exact Box2.new _ _ _ _
  have hz3 : w2.heap.size < W3.heap.size := by rw [hW3]; simp
  have HW3 := Lib.hid (And.intro hW3 (And.intro st3 (And.intro hz3 (And.intro hSb (And.intro hOb (And.intro hbd (And.intro hl8 (And.intro hzl (And.intro hzh (And.intro hn6 hnb))))))))))
  have hrw : w.heap.size < rg := by omega
  have hrb : rg < w1.heap.size := by omega
  have HRG := Lib.hid hrg
  clear hW3 st3 hz3 hSb hOb hbd hal hb2 bx2 hr2 hp2 ho2 hg2 hgo hr1 bx1 h hrg hz1 hc1 hd1
  go_wp2_with fail
  generalize hW : World.alloc w2 _ = W
  obtain rfl : W3 = W := HW3.out.1.trans hW
  clear hW
  rw [← HRG.out]
  obtain ⟨-, st3, hz3, hSb, hOb, hbd, hl8', hzl', hzh', hn6', hnb'⟩ := HW3.out
  obtain ⟨ns, n0, n1, n2, n3⟩ := id st3.nb
  refine (specFeeding_any z _ _ ps nd _ _ _ st3.pi st3.od).mono ?_
  rintro e w4 ⟨s4, rfl, hs4, hb4⟩
  have st4 := st3.low hb4 (by omega) (by omega) (by omega) (fun q hq => by have := hSb q hq; omega) (fun q hq => by have := hOb q hq; omega)
  have hz4 := hb4.size
  obtain ⟨A4, c4, rfl, -, -, -, -⟩ := hs4.form
  obtain ⟨m4, hm4⟩ : ∃ m, (feedL z ps nd).length = m := ⟨_, rfl⟩
  rw [hm4] at hs4 ⊢
  have HS := Lib.hid (And.intro hs4 (And.intro hSb (And.intro hOb (And.intro hbd hnb'))))
  clear st3 hb4 hm4 n0 n1 n2 n3 ns hSb hOb hbd hnb' HW3 hs4
  have key : ∀ wB : World, w4.heap.size ≤ wB.heap.size → FdSt w rg m c w2.heap.size w1.heap.size A z (.slice PA ps.length pc) (.slice OA nd.length oc) ps nd 4100 wB → True := fun _ _ _ => trivial
  clear key
  cases hf : feedB z ps nd with
  | true =>
    go_wp2_with fail
    with_reducible refine (pick_any 3 rg m c _ A _ st4.rd (by omega) (by omega) (by omega)).mono ?_
    rintro e w5 ⟨x, rfl, x0, x1, hr5, hg5, hz5⟩
    have st5 := st4.pick hg5 (hr5.more (K' := 4100) (by omega)) hrw hrb (by omega)
    have hs5 := HS.out.1.grown hg5 (by omega)
    clear st4 hr5 hg5
    by_cases hx : 0 < x
    · obtain ⟨ns, n0, n1, n2, n3⟩ := id st5.nb
      obtain ⟨bs, b0, b1, b2, b3⟩ := id st5.rb
      have HI := Lib.hid (And.intro st5.pi (And.intro hs5 (And.intro st5.od st5.be)))
      clear st5 hs5
      go_wp2
      refine bodyPost_ret (v := .tuple #[.agg #[.int .i64 z, .slice PA ps.length pc], .slice A4 m4 c4, .slice OA nd.length oc]) (by simp [results, Try.results37, go_sem, b0, b1]) rfl ⟨z, ps, _, _, _, feedL z ps nd, nd, rfl, ?_, ?_, ?_, ?_, hl8, hzl, hzh, hn6, HS.out.2.2.2.2⟩
      · exact ((HI.out.1.setLow (by show w.heap.size < _; omega)).setLow (by show w.heap.size < _; omega)).mono (by omega)
      · exact ((HI.out.2.1.setLow (by show w.heap.size < _; omega)).setLow (by show w.heap.size < _; omega)).mono (by omega)
      · exact ((HI.out.2.2.1.setLow (by show w.heap.size < _; omega)).setLow (by show w.heap.size < _; omega)).mono (by omega)
      · exact (HI.out.2.2.2.setCell (Nat.le_refl _) _).setCell (Nat.le_refl _) _
    · have hxd : decide (0 < x) = false := decide_eq_false hx
      have hz45 : w4.heap.size ≤ w5.heap.size := by omega
      clear hs5 hx x0 x1 hz5
      obtain ⟨i0, hi0, hz0, hz1', hz2'⟩ := info_parts int_info
      have hbE : Below w5.heap.size w5 (w5.alloc (.cells #[] 3)) := by (repeat (first | (with_reducible assumption) | (with_reducible exact Below.refl _ _) | ((with_reducible refine Below.alloc ?_ ?hsz _); (case hsz => (first | omega | (simp; done) | (simp; omega) | (simp at *; omega)))) | ((with_reducible refine Below.setCell ?_ ?hsz _); (case hsz => (first | omega | (simp; done) | (simp; omega) | (simp at *; omega)))) | (with_reducible refine Below.drew ?_) | (with_reducible refine below_drewN ?_ _) | ((with_reducible refine Below.trans ?_ (Below.mono (by with_reducible assumption) ?hsz)); (case hsz => (first | omega | (simp; done) | (simp; omega) | (simp at *; omega))))))
      have HE := Lib.hid (ints_empty5 w5 (b := w5.heap.size) (g := w5.heap.size) (Nat.le_refl _) rfl)
      have st6 := (st5).low hbE (by omega) (by omega) (by omega) (fun q hq => by have := HS.out.2.1 q hq; omega) (fun q hq => by have := HS.out.2.2.1 q hq; omega)
      have hzE : w5.heap.size ≤ (w5.alloc (.cells #[] 3)).heap.size := hbE.size
      go_wp2_with fail
      go_loopw [10, 8] (fun i t wr => ∃ (k cap : Nat) (Ao : Option Addr) (qs : List Int), k ≤ ps.length ∧ i = .int .i64 k ∧ t = .slice Ao k cap ∧ qs.length = k ∧ Ints wr w5.heap.size (.slice Ao k cap) qs ∧ FdSt w rg m c w2.heap.size w1.heap.size A z (.slice PA ps.length pc) (.slice OA nd.length oc) ps nd (4200 + 10 * k) wr ∧ w5.heap.size ≤ wr.heap.size) (fun i _ _ => ps.length - (intOf i).toNat)
      case atStart => exact ⟨0, 0, some ⟨w5.heap.size, 0, none⟩, [], by omega, rfl, rfl, rfl, HE.out, st6.more (by omega), hzE⟩
      case round =>
        clear st6 HE hbE hzE
        obtain ⟨k, cap, Ao, qs, hk, rfl, rfl, hqk, hI, st, hzr⟩ := hrel
        obtain ⟨ns, n0, n1, n2, n3⟩ := id st.nb
        have Hqk := Lib.hid hqk
        clear hqk
        by_cases hlt : k < ps.length
        · obtain ⟨g, rfl, hg1, hg2, c0, c1, c2, c3, c4⟩ := st.pi.at' k hlt
          have hbk := HS.out.2.2.2.1 _ (List.getElem_mem hlt)
          unfold bdP at hbk
          obtain ⟨-, -, m0, m1⟩ := hbk
          clear c0 c1 c2 c4
          generalize ps[k].mo = mo at *
          have hmx : max mo 0 = mo := by omega
          go_wp2_with fail
          all_goals (try (exfalso; omega))
          refine (pick_any (mo + 1) rg m c _ A _ st.rd (by omega) (by omega) (by omega)).mono ?_
          rintro e w7 ⟨x, rfl, x0, x1, hr7, hg7, hz7⟩
          have st7 := st.pick hg7 (hr7.more (K' := 4200 + 10 * (k + 1)) (by omega)) hrw hrb (by omega)
          have hI7 := hI.grown hg7 (by omega)
          have hz7' : wr.heap.size ≤ w7.heap.size := by omega
          clear st hI hr7 hg7 hz7 c3 n0 n1 n2 n3 ns hmx m0 m1
          have hI8 := hI7.keep ((Below.refl w7.heap.size w7).alloc (Nat.le_refl _) (.cells #[.int .i64 x] 3))
          have hown2 : (w7.alloc (.cells #[.int .i64 x] 3)).ownsRow w5.heap.size 3 1 (.slice Ao k cap) k (qs.map (Value.int .i64)) := by
            have := hI8.1
            rw [Hqk.out] at this
            exact this
          have hlit := heap_alloc_new w7 (.cells #[.int .i64 x] 3)
          have hb2 : Below w5.heap.size w7 (w7.alloc (.cells #[.int .i64 x] 3)) := (Below.refl _ _).alloc (by omega) _
          go_wp2_with (first
            | (at_builtin
               go_must (refine wpList_append_src rfl _ _ 40 rfl w5.heap.size 3 i0 _ 1 8 Try.underlying40 hi0 hz0 hz1' hz2' rfl (by omega) _ _ k 1 _ _ (by rfl) rfl hown2 (lit_src hlit rfl (by simp [Value.oneCell'])) (by unfold maxLen; omega) (by omega) (by simp; omega) ?_)
               intro r8 w8 hown8 hgr8 hat8))
          have hr8 : Ints w8 w5.heap.size r8 (qs ++ [x]) := ints_snoc (xs := qs) (by rw [Hqk.out]; exact hown8) (by rw [Hqk.out]; unfold small; omega)
          have hb8 : Below w5.heap.size w7 w8 := Below.grown hb2 hgr8 (by have := hb2.size; omega) (fun q hq => (hown2.lt q hq).1)
          have st8 := st7.low hb8 (by omega) (by omega) (by omega) (fun q hq => by have := HS.out.2.1 q hq; omega) (fun q hq => by have := HS.out.2.2.1 q hq; omega)
          have hz8 := hb8.size
          obtain ⟨A8, c8, hv, -⟩ := hr8.form
          have hl8'' : (qs ++ [x]).length = k + 1 := by rw [List.length_append, Hqk.out]; rfl
          rw [hl8''] at hv
          refine ⟨⟨k + 1, c8, A8, qs ++ [x], by omega, by go_num, hv, hl8'', by rw [← hv]; exact hr8, st8, by omega⟩, by simp [intOf]; omega⟩
        · have hkk : k = ps.length := by omega
          subst hkk
          obtain ⟨bs, b0, b1, b2, b3⟩ := id st.rb
          have HI := Lib.hid (And.intro st.pi (And.intro hI (And.intro st.od st.be)))
          clear st hI
          go_wp2
          refine bodyPost_ret (v := .tuple #[.agg #[.int .i64 z, .slice PA ps.length pc], .slice Ao ps.length cap, .slice OA nd.length oc]) (by simp [results, Try.results37, go_sem, b0, b1]) rfl ⟨z, ps, _, _, _, qs, nd, rfl, ?_, ?_, ?_, ?_, hl8, hzl, hzh, hn6, HS.out.2.2.2.2⟩
          · exact ((HI.out.1.setLow (by show w.heap.size < _; omega)).setLow (by show w.heap.size < _; omega)).mono (by omega)
          · exact ((HI.out.2.1.setLow (by show w.heap.size < _; omega)).setLow (by show w.heap.size < _; omega)).mono (by omega)
          · exact ((HI.out.2.2.1.setLow (by show w.heap.size < _; omega)).setLow (by show w.heap.size < _; omega)).mono (by omega)
          · exact (HI.out.2.2.2.setCell (Nat.le_refl _) _).setCell (Nat.le_refl _) _
  | false =>
    have st5 := st4.more (K' := 4100) (by omega)
    have hz45 : w4.heap.size ≤ w4.heap.size := Nat.le_refl _
    clear st4
    obtain ⟨i0, hi0, hz0, hz1', hz2'⟩ := info_parts int_info
    have hbE : Below w4.heap.size w4 (w4.alloc (.cells #[] 3)) := by (repeat (first | (with_reducible assumption) | (with_reducible exact Below.refl _ _) | ((with_reducible refine Below.alloc ?_ ?hsz _); (case hsz => (first | omega | (simp; done) | (simp; omega) | (simp at *; omega)))) | ((with_reducible refine Below.setCell ?_ ?hsz _); (case hsz => (first | omega | (simp; done) | (simp; omega) | (simp at *; omega)))) | (with_reducible refine Below.drew ?_) | (with_reducible refine below_drewN ?_ _) | ((with_reducible refine Below.trans ?_ (Below.mono (by with_reducible assumption) ?hsz)); (case hsz => (first | omega | (simp; done) | (simp; omega) | (simp at *; omega))))))
    have HE := Lib.hid (ints_empty5 w4 (b := w4.heap.size) (g := w4.heap.size) (Nat.le_refl _) rfl)
    have st6 := (st5).low hbE (by omega) (by omega) (by omega) (fun q hq => by have := HS.out.2.1 q hq; omega) (fun q hq => by have := HS.out.2.2.1 q hq; omega)
    have hzE : w4.heap.size ≤ (w4.alloc (.cells #[] 3)).heap.size := hbE.size
    go_wp2_with fail
    go_loopw [10, 8] (fun i t wr => ∃ (k cap : Nat) (Ao : Option Addr) (qs : List Int), k ≤ ps.length ∧ i = .int .i64 k ∧ t = .slice Ao k cap ∧ qs.length = k ∧ Ints wr w4.heap.size (.slice Ao k cap) qs ∧ FdSt w rg m c w2.heap.size w1.heap.size A z (.slice PA ps.length pc) (.slice OA nd.length oc) ps nd (4200 + 10 * k) wr ∧ w4.heap.size ≤ wr.heap.size) (fun i _ _ => ps.length - (intOf i).toNat)
    case atStart => exact ⟨0, 0, some ⟨w4.heap.size, 0, none⟩, [], by omega, rfl, rfl, rfl, HE.out, st6.more (by omega), hzE⟩
    case round =>
      clear st6 HE hbE hzE
      obtain ⟨k, cap, Ao, qs, hk, rfl, rfl, hqk, hI, st, hzr⟩ := hrel
      obtain ⟨ns, n0, n1, n2, n3⟩ := id st.nb
      have Hqk := Lib.hid hqk
      clear hqk
      by_cases hlt : k < ps.length
      · obtain ⟨g, rfl, hg1, hg2, c0, c1, c2, c3, c4⟩ := st.pi.at' k hlt
        have hbk := HS.out.2.2.2.1 _ (List.getElem_mem hlt)
        unfold bdP at hbk
        obtain ⟨-, -, m0, m1⟩ := hbk
        clear c0 c1 c2 c4
        generalize ps[k].mo = mo at *
        have hmx : max mo 0 = mo := by omega
        go_wp2_with fail
        all_goals (try (exfalso; omega))
        refine (pick_any (mo + 1) rg m c _ A _ st.rd (by omega) (by omega) (by omega)).mono ?_
        rintro e w7 ⟨x, rfl, x0, x1, hr7, hg7, hz7⟩
        have st7 := st.pick hg7 (hr7.more (K' := 4200 + 10 * (k + 1)) (by omega)) hrw hrb (by omega)
        have hI7 := hI.grown hg7 (by omega)
        have hz7' : wr.heap.size ≤ w7.heap.size := by omega
        clear st hI hr7 hg7 hz7 c3 n0 n1 n2 n3 ns hmx m0 m1
        have hI8 := hI7.keep ((Below.refl w7.heap.size w7).alloc (Nat.le_refl _) (.cells #[.int .i64 x] 3))
        have hown2 : (w7.alloc (.cells #[.int .i64 x] 3)).ownsRow w4.heap.size 3 1 (.slice Ao k cap) k (qs.map (Value.int .i64)) := by
          have := hI8.1
          rw [Hqk.out] at this
          exact this
        have hlit := heap_alloc_new w7 (.cells #[.int .i64 x] 3)
        have hb2 : Below w4.heap.size w7 (w7.alloc (.cells #[.int .i64 x] 3)) := (Below.refl _ _).alloc (by omega) _
        go_wp2_with (first
          | (at_builtin
             go_must (refine wpList_append_src rfl _ _ 40 rfl w4.heap.size 3 i0 _ 1 8 Try.underlying40 hi0 hz0 hz1' hz2' rfl (by omega) _ _ k 1 _ _ (by rfl) rfl hown2 (lit_src hlit rfl (by simp [Value.oneCell'])) (by unfold maxLen; omega) (by omega) (by simp; omega) ?_)
             intro r8 w8 hown8 hgr8 hat8))
        have hr8 : Ints w8 w4.heap.size r8 (qs ++ [x]) := ints_snoc (xs := qs) (by rw [Hqk.out]; exact hown8) (by rw [Hqk.out]; unfold small; omega)
        have hb8 : Below w4.heap.size w7 w8 := Below.grown hb2 hgr8 (by have := hb2.size; omega) (fun q hq => (hown2.lt q hq).1)
        have st8 := st7.low hb8 (by omega) (by omega) (by omega) (fun q hq => by have := HS.out.2.1 q hq; omega) (fun q hq => by have := HS.out.2.2.1 q hq; omega)
        have hz8 := hb8.size
        obtain ⟨A8, c8, hv, -⟩ := hr8.form
        have hl8'' : (qs ++ [x]).length = k + 1 := by rw [List.length_append, Hqk.out]; rfl
        rw [hl8''] at hv
        refine ⟨⟨k + 1, c8, A8, qs ++ [x], by omega, by go_num, hv, hl8'', by rw [← hv]; exact hr8, st8, by omega⟩, by simp [intOf]; omega⟩
      · have hkk : k = ps.length := by omega
        subst hkk
        obtain ⟨bs, b0, b1, b2, b3⟩ := id st.rb
        have HI := Lib.hid (And.intro st.pi (And.intro hI (And.intro st.od st.be)))
        clear st hI
        go_wp2
        refine bodyPost_ret (v := .tuple #[.agg #[.int .i64 z, .slice PA ps.length pc], .slice Ao ps.length cap, .slice OA nd.length oc]) (by simp [results, Try.results37, go_sem, b0, b1]) rfl ⟨z, ps, _, _, _, qs, nd, rfl, ?_, ?_, ?_, ?_, hl8, hzl, hzh, hn6, HS.out.2.2.2.2⟩
        · exact ((HI.out.1.setLow (by show w.heap.size < _; omega)).setLow (by show w.heap.size < _; omega)).mono (by omega)
        · exact ((HI.out.2.1.setLow (by show w.heap.size < _; omega)).setLow (by show w.heap.size < _; omega)).mono (by omega)
        · exact ((HI.out.2.2.1.setLow (by show w.heap.size < _; omega)).setLow (by show w.heap.size < _; omega)).mono (by omega)
        · exact (HI.out.2.2.2.setCell (Nat.le_refl _) _).setCell (Nat.le_refl _) _

end Go.Proofs.Ytphbmlephldaaaa
