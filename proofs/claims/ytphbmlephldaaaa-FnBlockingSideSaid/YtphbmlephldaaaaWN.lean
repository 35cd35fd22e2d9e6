/- Contracts of the functions of chapter 2 in the program: the room of all but a side. -/
import Derived.Test.YtphbmlephldaaaaW7
namespace Go.Proofs.Ytphbmlephldaaaa
open Go.RowKit

theorem not_neg : ∀ k : Fin 32, bits .xor .i64 (-1) (-1 - (k.val : Int)) = (k.val : Int) := by decide +kernel
theorem not_neg' {k : Nat} (h : k ≤ 31) : bits .xor .i64 (-1) (-1 - (k : Int)) = (k : Int) := not_neg ⟨k, by omega⟩

set_option maxHeartbeats 400000 in
set_option maxRecDepth 20000 in
theorem leavesBut_any (k : Nat) (p : Pp) (w : World) (h0 : 0 ≤ p.fr ∧ p.fr ≤ 4 ∧ 0 ≤ p.to ∧ p.to ≤ 4) (h4 : k ≤ 31) :
    Calls Try.prog 127 #[.int .i64 (bits .xor .i64 (-1) (-1 - (k : Int))), .agg #[.int .i64 p.fr, .int .i64 p.to, .int .i64 p.le, .int .i64 p.mo, .int .i64 p.co]] w fun e w' => e = .returned (.bool (partsB (-1 - (k : Int)) p.to p.fr)) ∧ Below w.heap.size w w' := by
  rw [not_neg' h4]
  exact (leaves_any k p w h0).mono fun _ _ h => ⟨by rw [h.1, parts_not h0.2.2.1 h0.2.2.2 h0.1 h0.2.1], h.2⟩

set_option maxHeartbeats 400000 in
set_option maxRecDepth 20000 in
theorem acRoomN_any (s : Int) (j : Int) (k bs bo bb : Nat) (p : Pp) (w : World) (hs : s = -1 - (k : Int)) (h0 : 0 ≤ p.fr ∧ p.fr ≤ 4 ∧ 0 ≤ p.to ∧ p.to ≤ 4) (hl : 0 ≤ p.le ∧ p.le ≤ p.mo ∧ p.mo ≤ 4) (h4 : k ≤ 31)
    (hbs : bs < w.heap.size) (hbo : bo < w.heap.size) (hbb : bb < w.heap.size)
    (d0 : w.cell? ⟨bs, 0, none⟩ = some (.int .i64 s)) (d1 : w.cell? ⟨bo, 0, none⟩ = some (.func (Fn.func 100) #[] #[])) (d2 : w.cell? ⟨bb, 0, none⟩ = some (.func (Fn.func 101) #[] #[])) :
    Calls Try.prog 126 #[.int .i64 j, .agg #[.int .i64 p.fr, .int .i64 p.to, .int .i64 p.le, .int .i64 p.mo, .int .i64 p.co], .pointer (some ⟨bs, 0, none⟩), .pointer (some ⟨bo, 0, none⟩), .pointer (some ⟨bb, 0, none⟩)] w fun e w' => e = .returned (.int .i64 (acT s p p.mo p.le)) ∧ Below w.heap.size w w' := by
  have H0 := Lib.hid h0
  have HN := Lib.hid (fun w : World => show Calls Try.prog 127 #[.int .i64 (bits .xor .i64 (-1) s), .agg #[.int .i64 p.fr, .int .i64 p.to, .int .i64 p.le, .int .i64 p.mo, .int .i64 p.co]] w fun e w' => e = .returned (.bool (partsB s p.to p.fr)) ∧ Below w.heap.size w w' by rw [hs]; exact leavesBut_any k p w h0 h4)
  obtain ⟨l1, l2, l3⟩ := hl
  clear h0 hs
  by_cases h1 : partsB s p.fr p.to = true
  · have Hr := Lib.hid (acT_out (o := p.mo) (b := p.le) h1)
    go_enter Try.func126, Try.ntmps126
    go_wp2_with (first
      | (go_at_call 127; ((with_reducible refine (leaves_any s p _ H0.out).mono ?_); rintro e w1 ⟨rfl, hb1⟩; obtain ⟨hc1, hf1, hz1⟩ := bcell hb1; (try simp at hz1); (try have hy1 : w.heap.size < w1.heap.size := by omega); (try have hy2 : w.heap.size + 1 < w1.heap.size := by omega); (try have hy3 : w.heap.size + 1 + 1 < w1.heap.size := by omega); have hlt1 : bs < w1.heap.size := (by omega); have hlt2 : bo < w1.heap.size := (by omega); have hlt3 : bb < w1.heap.size := (by omega)))
      | (go_at_call 127; ((with_reducible refine (HN.out _).mono ?_); rintro e w1 ⟨rfl, hb1⟩; obtain ⟨hc1, hf1, hz1⟩ := bcell hb1; (try simp at hz1); (try have hy1 : w.heap.size < w1.heap.size := by omega); (try have hy2 : w.heap.size + 1 < w1.heap.size := by omega); (try have hy3 : w.heap.size + 1 + 1 < w1.heap.size := by omega); have hlt1 : bs < w1.heap.size := (by omega); have hlt2 : bo < w1.heap.size := (by omega); have hlt3 : bb < w1.heap.size := (by omega)))
      | (first | (go_at_call 100; ((with_reducible refine (roomOut_any _ _ _).mono ?_); rintro e w1 ⟨rfl, hb1⟩; obtain ⟨hc1, hf1, hz1⟩ := bcell hb1; (try simp at hz1); (try have hy1 : w.heap.size < w1.heap.size := by omega); (try have hy2 : w.heap.size + 1 < w1.heap.size := by omega); (try have hy3 : w.heap.size + 1 + 1 < w1.heap.size := by omega))) | (go_at_call 101; ((with_reducible refine (roomBack_any _ _ _).mono ?_); rintro e w1 ⟨rfl, hb1⟩; obtain ⟨hc1, hf1, hz1⟩ := bcell hb1; (try simp at hz1); (try have hy1 : w.heap.size < w1.heap.size := by omega); (try have hy2 : w.heap.size + 1 < w1.heap.size := by omega); (try have hy3 : w.heap.size + 1 + 1 < w1.heap.size := by omega)))))
    go_ret
    exact ⟨ret_int Hr.out.symm, by (repeat (first | (with_reducible assumption) | (with_reducible exact Below.refl _ _) | ((with_reducible refine Below.alloc ?_ ?hsz _); (case hsz => (first | omega | (simp; done) | (simp; omega) | (simp at *; omega)))) | ((with_reducible refine Below.setCell ?_ ?hsz _); (case hsz => (first | omega | (simp; done) | (simp; omega) | (simp at *; omega)))) | (with_reducible refine Below.drew ?_) | (with_reducible refine below_drewN ?_ _) | ((with_reducible refine Below.trans ?_ (Below.mono (by with_reducible assumption) ?hsz)); (case hsz => (first | omega | (simp; done) | (simp; omega) | (simp at *; omega))))))⟩
  · have h1' : partsB s p.fr p.to = false := by simpa using h1
    clear h1
    by_cases h2 : partsB s p.to p.fr = true
    · have Hr := Lib.hid (acT_back (o := p.mo) (b := p.le) h1' h2)
      go_enter Try.func126, Try.ntmps126
      go_wp2_with (first
        | (go_at_call 127; ((with_reducible refine (leaves_any s p _ H0.out).mono ?_); rintro e w1 ⟨rfl, hb1⟩; obtain ⟨hc1, hf1, hz1⟩ := bcell hb1; (try simp at hz1); (try have hy1 : w.heap.size < w1.heap.size := by omega); (try have hy2 : w.heap.size + 1 < w1.heap.size := by omega); (try have hy3 : w.heap.size + 1 + 1 < w1.heap.size := by omega); have hlt1 : bs < w1.heap.size := (by omega); have hlt2 : bo < w1.heap.size := (by omega); have hlt3 : bb < w1.heap.size := (by omega)))
        | (go_at_call 127; ((with_reducible refine (HN.out _).mono ?_); rintro e w1 ⟨rfl, hb1⟩; obtain ⟨hc1, hf1, hz1⟩ := bcell hb1; (try simp at hz1); (try have hy1 : w.heap.size < w1.heap.size := by omega); (try have hy2 : w.heap.size + 1 < w1.heap.size := by omega); (try have hy3 : w.heap.size + 1 + 1 < w1.heap.size := by omega); have hlt1 : bs < w1.heap.size := (by omega); have hlt2 : bo < w1.heap.size := (by omega); have hlt3 : bb < w1.heap.size := (by omega)))
        | (first | (go_at_call 100; ((with_reducible refine (roomOut_any _ _ _).mono ?_); rintro e w1 ⟨rfl, hb1⟩; obtain ⟨hc1, hf1, hz1⟩ := bcell hb1; (try simp at hz1); (try have hy1 : w.heap.size < w1.heap.size := by omega); (try have hy2 : w.heap.size + 1 < w1.heap.size := by omega); (try have hy3 : w.heap.size + 1 + 1 < w1.heap.size := by omega))) | (go_at_call 101; ((with_reducible refine (roomBack_any _ _ _).mono ?_); rintro e w1 ⟨rfl, hb1⟩; obtain ⟨hc1, hf1, hz1⟩ := bcell hb1; (try simp at hz1); (try have hy1 : w.heap.size < w1.heap.size := by omega); (try have hy2 : w.heap.size + 1 < w1.heap.size := by omega); (try have hy3 : w.heap.size + 1 + 1 < w1.heap.size := by omega)))))
      go_ret
      exact ⟨ret_int Hr.out.symm, by (repeat (first | (with_reducible assumption) | (with_reducible exact Below.refl _ _) | ((with_reducible refine Below.alloc ?_ ?hsz _); (case hsz => (first | omega | (simp; done) | (simp; omega) | (simp at *; omega)))) | ((with_reducible refine Below.setCell ?_ ?hsz _); (case hsz => (first | omega | (simp; done) | (simp; omega) | (simp at *; omega)))) | (with_reducible refine Below.drew ?_) | (with_reducible refine below_drewN ?_ _) | ((with_reducible refine Below.trans ?_ (Below.mono (by with_reducible assumption) ?hsz)); (case hsz => (first | omega | (simp; done) | (simp; omega) | (simp at *; omega))))))⟩
    · have h2' : partsB s p.to p.fr = false := by simpa using h2
      clear h2
      have Hr := Lib.hid (acT_no (o := p.mo) (b := p.le) h1' h2')
      go_enter Try.func126, Try.ntmps126
      go_wp2_with (first
        | (go_at_call 127; ((with_reducible refine (leaves_any s p _ H0.out).mono ?_); rintro e w1 ⟨rfl, hb1⟩; obtain ⟨hc1, hf1, hz1⟩ := bcell hb1; (try simp at hz1); (try have hy1 : w.heap.size < w1.heap.size := by omega); (try have hy2 : w.heap.size + 1 < w1.heap.size := by omega); (try have hy3 : w.heap.size + 1 + 1 < w1.heap.size := by omega); have hlt1 : bs < w1.heap.size := (by omega); have hlt2 : bo < w1.heap.size := (by omega); have hlt3 : bb < w1.heap.size := (by omega)))
        | (go_at_call 127; ((with_reducible refine (HN.out _).mono ?_); rintro e w1 ⟨rfl, hb1⟩; obtain ⟨hc1, hf1, hz1⟩ := bcell hb1; (try simp at hz1); (try have hy1 : w.heap.size < w1.heap.size := by omega); (try have hy2 : w.heap.size + 1 < w1.heap.size := by omega); (try have hy3 : w.heap.size + 1 + 1 < w1.heap.size := by omega); have hlt1 : bs < w1.heap.size := (by omega); have hlt2 : bo < w1.heap.size := (by omega); have hlt3 : bb < w1.heap.size := (by omega)))
        | (first | (go_at_call 100; ((with_reducible refine (roomOut_any _ _ _).mono ?_); rintro e w1 ⟨rfl, hb1⟩; obtain ⟨hc1, hf1, hz1⟩ := bcell hb1; (try simp at hz1); (try have hy1 : w.heap.size < w1.heap.size := by omega); (try have hy2 : w.heap.size + 1 < w1.heap.size := by omega); (try have hy3 : w.heap.size + 1 + 1 < w1.heap.size := by omega))) | (go_at_call 101; ((with_reducible refine (roomBack_any _ _ _).mono ?_); rintro e w1 ⟨rfl, hb1⟩; obtain ⟨hc1, hf1, hz1⟩ := bcell hb1; (try simp at hz1); (try have hy1 : w.heap.size < w1.heap.size := by omega); (try have hy2 : w.heap.size + 1 < w1.heap.size := by omega); (try have hy3 : w.heap.size + 1 + 1 < w1.heap.size := by omega)))))
      go_ret
      exact ⟨ret_int Hr.out.symm, by (repeat (first | (with_reducible assumption) | (with_reducible exact Below.refl _ _) | ((with_reducible refine Below.alloc ?_ ?hsz _); (case hsz => (first | omega | (simp; done) | (simp; omega) | (simp at *; omega)))) | ((with_reducible refine Below.setCell ?_ ?hsz _); (case hsz => (first | omega | (simp; done) | (simp; omega) | (simp at *; omega)))) | (with_reducible refine Below.drew ?_) | (with_reducible refine below_drewN ?_ _) | ((with_reducible refine Below.trans ?_ (Below.mono (by with_reducible assumption) ?hsz)); (case hsz => (first | omega | (simp; done) | (simp; omega) | (simp at *; omega))))))⟩

set_option maxHeartbeats 400000 in
set_option maxRecDepth 20000 in
theorem sumRoomN_any (s n : Int) (kk bs bo bb : Nat) (v : Value) (ps : List Pp) (b : Nat) (w : World) (hp : Pipes w b v ps) (hok : netOkB n ps = true) (hs0 : s = -1 - (kk : Int)) (h4 : kk ≤ 31)
    (hbs : bs < w.heap.size) (hbo : bo < w.heap.size) (hbb : bb < w.heap.size)
    (d0 : w.cell? ⟨bs, 0, none⟩ = some (.int .i64 s)) (d1 : w.cell? ⟨bo, 0, none⟩ = some (.func (Fn.func 100) #[] #[])) (d2 : w.cell? ⟨bb, 0, none⟩ = some (.func (Fn.func 101) #[] #[])) :
    Calls Try.prog 68 #[v, .func (Fn.func 126) #[] #[.pointer (some ⟨bs, 0, none⟩), .pointer (some ⟨bo, 0, none⟩), .pointer (some ⟨bb, 0, none⟩)]] w fun e w' => e = .returned (.int .i64 (room s ps)) ∧ Below w.heap.size w w' := by
  have h7 := (netOk_parts hok).2.2.1
  have hends := Lib.hid (net_ends hok)
  have hrooms := Lib.hid (net_rooms hok)
  have HS0 := Lib.hid hs0
  obtain ⟨A, c, rfl, hc1, hc2, hs, hcell⟩ := hp.form
  unfold maxLen at hc2
  clear hs0
  go_enter Try.func68, Try.ntmps68
  go_wp2
  go_loopw [10, 5] (fun i s' wr => ∃ k : Nat, k ≤ ps.length ∧ i = .int .i64 k ∧ s' = .int .i64 (room s (ps.take k)) ∧ Below w.heap.size w wr) (fun i _ _ => ps.length - (intOf i).toNat)
  case atStart => exact ⟨0, by omega, rfl, rfl, Below.refl _ _⟩
  case round =>
    obtain ⟨k, hk, rfl, rfl, hb⟩ := hrel
    obtain ⟨hcr, hfr, hzr⟩ := bcell hb
    by_cases hlt : k < ps.length
    · obtain ⟨g, rfl, hg1, hg2, c0, c1, c2, c3, c4⟩ := hcell w (Below.refl _ _) k hlt
      have hbd := room_bd s (ps.take k) (fun x hx => hrooms.out x (List.mem_of_mem_take hx))
      have hl : (ps.take k).length ≤ 7 := by rw [List.length_take]; omega
      have hr := hrooms.out _ (List.getElem_mem hlt)
      have ht := acT_bd (s := s) (p := ps[k]) (o := ps[k].mo) (b := ps[k].le) (m := 4) (by omega) (by omega) (by omega) (by omega)
      have ht1 := ht.1
      have ht2 := ht.2
      have g1 : -28 ≤ room s (ps.take k) := by omega
      have g2 : room s (ps.take k) ≤ 28 := by omega
      clear hbd ht hl hr
      have Hs := Lib.hid (room_snoc s ps k hlt)
      go_wp2_with (first
        | (go_at_call 126; ((with_reducible refine (acRoomN_any s k kk bs bo bb ps[k] _ HS0.out (hends.out _ (List.getElem_mem hlt)) (hrooms.out _ (List.getElem_mem hlt)) h4 (by (first | omega | (simp; done) | (simp; omega) | (simp at *; omega))) (by (first | omega | (simp; done) | (simp; omega) | (simp at *; omega))) (by (first | omega | (simp; done) | (simp; omega) | (simp at *; omega))) (by (repeat (first | (with_reducible assumption) | ((with_reducible refine (Below.cell (by with_reducible assumption) ?hsz).trans ?_); (case hsz => (first | omega | (simp; done) | (simp; omega) | (simp at *; omega)))) | ((with_reducible refine (World.cell?_alloc_lt _ _ _ ?hsz).trans ?_); (case hsz => (first | omega | (simp; done) | (simp; omega) | (simp at *; omega)))) | ((with_reducible refine (World.cell?_setCell_other _ _ _ _ ?hsz).trans ?_); (case hsz => (intro h; injection h with h1 h2; omega)))))) (by (repeat (first | (with_reducible assumption) | ((with_reducible refine (Below.cell (by with_reducible assumption) ?hsz).trans ?_); (case hsz => (first | omega | (simp; done) | (simp; omega) | (simp at *; omega)))) | ((with_reducible refine (World.cell?_alloc_lt _ _ _ ?hsz).trans ?_); (case hsz => (first | omega | (simp; done) | (simp; omega) | (simp at *; omega)))) | ((with_reducible refine (World.cell?_setCell_other _ _ _ _ ?hsz).trans ?_); (case hsz => (intro h; injection h with h1 h2; omega)))))) (by (repeat (first | (with_reducible assumption) | ((with_reducible refine (Below.cell (by with_reducible assumption) ?hsz).trans ?_); (case hsz => (first | omega | (simp; done) | (simp; omega) | (simp at *; omega)))) | ((with_reducible refine (World.cell?_alloc_lt _ _ _ ?hsz).trans ?_); (case hsz => (first | omega | (simp; done) | (simp; omega) | (simp at *; omega)))) | ((with_reducible refine (World.cell?_setCell_other _ _ _ _ ?hsz).trans ?_); (case hsz => (intro h; injection h with h1 h2; omega))))))).mono ?_); rintro e w1 ⟨rfl, hb1⟩; obtain ⟨hc1, hf1, hz1⟩ := bcell hb1; (try simp at hz1); (try have hy1 : w.heap.size < w1.heap.size := by omega); (try have hy2 : w.heap.size + 1 < w1.heap.size := by omega); (try have hy3 : w.heap.size + 1 + 1 < w1.heap.size := by omega))))
      go_roundw
      case rel => exact ⟨k + 1, by omega, by go_num, by rw [Hs.out], by (repeat (first | (with_reducible assumption) | (with_reducible exact Below.refl _ _) | ((with_reducible refine Below.alloc ?_ ?hsz _); (case hsz => (first | omega | (simp; done) | (simp; omega) | (simp at *; omega)))) | ((with_reducible refine Below.setCell ?_ ?hsz _); (case hsz => (first | omega | (simp; done) | (simp; omega) | (simp at *; omega)))) | (with_reducible refine Below.drew ?_) | (with_reducible refine below_drewN ?_ _) | ((with_reducible refine Below.trans ?_ (Below.mono (by with_reducible assumption) ?hsz)); (case hsz => (first | omega | (simp; done) | (simp; omega) | (simp at *; omega))))))⟩
      case measure => simp [intOf]; omega
    · go_wp2
      go_ret
      have : k = ps.length := by omega
      subst this
      exact ⟨ret_int (by rw [List.take_of_length_le (Nat.le_refl _)]), by (repeat (first | (with_reducible assumption) | (with_reducible exact Below.refl _ _) | ((with_reducible refine Below.alloc ?_ ?hsz _); (case hsz => (first | omega | (simp; done) | (simp; omega) | (simp at *; omega)))) | ((with_reducible refine Below.setCell ?_ ?hsz _); (case hsz => (first | omega | (simp; done) | (simp; omega) | (simp at *; omega)))) | (with_reducible refine Below.drew ?_) | (with_reducible refine below_drewN ?_ _) | ((with_reducible refine Below.trans ?_ (Below.mono (by with_reducible assumption) ?hsz)); (case hsz => (first | omega | (simp; done) | (simp; omega) | (simp at *; omega))))))⟩

set_option maxHeartbeats 400000 in
set_option maxRecDepth 20000 in
theorem sumAcrossRoomN_any (s n : Int) (kk : Nat) (v : Value) (ps : List Pp) (b : Nat) (w : World) (hp : Pipes w b v ps) (hok : netOkB n ps = true) (hs0 : s = -1 - (kk : Int)) (h4 : kk ≤ 31) :
    Calls Try.prog 102 #[v, .int .i64 s, .func (Fn.func 100) #[] #[], .func (Fn.func 101) #[] #[]] w fun e w' => e = .returned (.int .i64 (room s ps)) ∧ Below w.heap.size w w' := by
  have Hok := Lib.hid hok
  have HS0 := Lib.hid hs0
  clear hok hs0
  go_enter Try.func102, Try.ntmps102
  go_wp2_with (first
    | (go_at_call 68; ((with_reducible refine (sumRoomN_any s n kk _ _ _ _ ps b _ (hp.keep (by (repeat (first | (with_reducible assumption) | (with_reducible exact Below.refl _ _) | ((with_reducible refine Below.alloc ?_ ?hsz _); (case hsz => (first | omega | (simp; done) | (simp; omega) | (simp at *; omega)))) | ((with_reducible refine Below.setCell ?_ ?hsz _); (case hsz => (first | omega | (simp; done) | (simp; omega) | (simp at *; omega)))) | (with_reducible refine Below.drew ?_) | (with_reducible refine below_drewN ?_ _) | ((with_reducible refine Below.trans ?_ (Below.mono (by with_reducible assumption) ?hsz)); (case hsz => (first | omega | (simp; done) | (simp; omega) | (simp at *; omega)))))))) Hok.out HS0.out h4 (by (first | omega | (simp; done) | (simp; omega) | (simp at *; omega))) (by (first | omega | (simp; done) | (simp; omega) | (simp at *; omega))) (by (first | omega | (simp; done) | (simp; omega) | (simp at *; omega))) (by go_simp) (by go_simp) (by go_simp)).mono ?_); rintro e w1 ⟨rfl, hb1⟩; obtain ⟨hc1, hf1, hz1⟩ := bcell hb1; (try simp at hz1); (try have hy1 : w.heap.size < w1.heap.size := by omega); (try have hy2 : w.heap.size + 1 < w1.heap.size := by omega); (try have hy3 : w.heap.size + 1 + 1 < w1.heap.size := by omega))))
  go_ret
  exact ⟨rfl, by (repeat (first | (with_reducible assumption) | (with_reducible exact Below.refl _ _) | ((with_reducible refine Below.alloc ?_ ?hsz _); (case hsz => (first | omega | (simp; done) | (simp; omega) | (simp at *; omega)))) | ((with_reducible refine Below.setCell ?_ ?hsz _); (case hsz => (first | omega | (simp; done) | (simp; omega) | (simp at *; omega)))) | (with_reducible refine Below.drew ?_) | (with_reducible refine below_drewN ?_ _) | ((with_reducible refine Below.trans ?_ (Below.mono (by with_reducible assumption) ?hsz)); (case hsz => (first | omega | (simp; done) | (simp; omega) | (simp at *; omega))))))⟩

set_option maxHeartbeats 400000 in
set_option maxRecDepth 20000 in
theorem roomOfN_any (s n : Int) (kk : Nat) (v : Value) (ps : List Pp) (b : Nat) (w : World) (hp : Pipes w b v ps) (hok : netOkB n ps = true) (hs0 : s = -1 - (kk : Int)) (h4 : kk ≤ 31) :
    Calls Try.prog 52 #[v, .int .i64 s] w fun e w' => e = .returned (.int .i64 (room s ps)) ∧ Below w.heap.size w w' := by
  have Hok := Lib.hid hok
  have HS0 := Lib.hid hs0
  clear hok hs0
  go_enter Try.func52, Try.ntmps52
  go_wp2_with (first
    | (go_at_call 102; ((with_reducible refine (sumAcrossRoomN_any s n kk _ ps b _ (hp.keep (by (repeat (first | (with_reducible assumption) | (with_reducible exact Below.refl _ _) | ((with_reducible refine Below.alloc ?_ ?hsz _); (case hsz => (first | omega | (simp; done) | (simp; omega) | (simp at *; omega)))) | ((with_reducible refine Below.setCell ?_ ?hsz _); (case hsz => (first | omega | (simp; done) | (simp; omega) | (simp at *; omega)))) | (with_reducible refine Below.drew ?_) | (with_reducible refine below_drewN ?_ _) | ((with_reducible refine Below.trans ?_ (Below.mono (by with_reducible assumption) ?hsz)); (case hsz => (first | omega | (simp; done) | (simp; omega) | (simp at *; omega)))))))) Hok.out HS0.out h4).mono ?_); rintro e w1 ⟨rfl, hb1⟩; obtain ⟨hc1, hf1, hz1⟩ := bcell hb1; (try simp at hz1); (try have hy1 : w.heap.size < w1.heap.size := by omega); (try have hy2 : w.heap.size + 1 < w1.heap.size := by omega); (try have hy3 : w.heap.size + 1 + 1 < w1.heap.size := by omega))))
  go_ret
  exact ⟨rfl, by (repeat (first | (with_reducible assumption) | (with_reducible exact Below.refl _ _) | ((with_reducible refine Below.alloc ?_ ?hsz _); (case hsz => (first | omega | (simp; done) | (simp; omega) | (simp at *; omega)))) | ((with_reducible refine Below.setCell ?_ ?hsz _); (case hsz => (first | omega | (simp; done) | (simp; omega) | (simp at *; omega)))) | (with_reducible refine Below.drew ?_) | (with_reducible refine below_drewN ?_ _) | ((with_reducible refine Below.trans ?_ (Below.mono (by with_reducible assumption) ?hsz)); (case hsz => (first | omega | (simp; done) | (simp; omega) | (simp at *; omega))))))⟩

end Go.Proofs.Ytphbmlephldaaaa
