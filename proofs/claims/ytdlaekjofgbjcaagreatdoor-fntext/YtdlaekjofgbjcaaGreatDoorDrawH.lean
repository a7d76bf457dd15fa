/-
 A line drawn: (*spec.l4Cur).line. Mine, by template (wip/gen.py).
-/
import Derived.Test.YtdlaekjofgbjcaaGreatDoorCurZ
import Derived.Test.YtdlaekjofgbjcaaGreatDoorSLine
import Derived.Test.YtdlaekjofgbjcaaGreatDoorAnsY
import Derived.Test.YtdlaekjofgbjcaaGreatDoorBaseZ
import Derived.Deep.RegionHeld3
namespace Go.Proofs.YtdlaekjofgbjcaaGreatDoor
open Go.RowKit
theorem lineT_len {E : Ev} (h : LineOk E) : (lineT E).length ≤ 300 := by
 have hw : (bl (wordB E.op)).length ≤ 8 := by rw [bl_size]; exact wordB_size _
 rcases h with h | h
 ·
  obtain ⟨o, -, hn, -, hl, -⟩ := h; rw [lineT_1 o]; have hs := secT_len (eOrd E) 60 (by omega) (fun i hi => ⟨(hl.1 i hi).1, (hl.1 i hi).2.1⟩) E.secs.length (Nat.le_refl _); have h20 : E.secs.length ≤ 20 := hl.2.2; have hh : (bl E.holder).length ≤ 20 := by rw [bl_size]; exact hn.2.2
  have hk : (kindL E.kind).length ≤ 5 := by unfold kindL; split <;> simp
  have h1 : (bl (wordB 1)).length ≤ 8 := by rw [bl_size]; exact wordB_size _
  unfold baseL; simp only [List.length_append, List.length_cons]; omega
 ·
  obtain ⟨o, f, -, -, hn, -, -, ht, -⟩ := h; unfold In at o f; have hd := dec_len E.of_.toNat (by omega)
  have hh : (nameL E).length ≤ 21 := by
   unfold nameL; split
   ·
    next q =>
    have := (hn q).2.2; rw [List.length_cons, bl_size]; omega
   · simp
  have hx : (textL E).length ≤ 202 := by
   unfold textL; split
   ·
    rw [List.length_cons, List.length_cons, bl_size]; omega
   · simp
  unfold lineT ofL; rw [if_neg (by omega)]; simp only [List.length_append, List.length_cons]; omega
theorem RetLn.len {e : Ending} {E : Ev} (h : RetLn e E) : ∃ s, e = .returned (.string s) ∧ s.size ≤ 300 := by
 obtain ⟨s, hs, h⟩ := h; refine ⟨s, hs, ?_⟩; rw [← bl_size s]; rcases h with ⟨a, b⟩ | ⟨_, b⟩
 · rw [b]; exact lineT_len a
 · rw [b]; simp
theorem evAt_row {w : World} {lo : Nat} {sv : Value} {E : Ev} (h : w.ownsRow lo 3 1 sv E.secs.length (E.secs.map (Value.int .i64))) : EvAt w (.agg #[.int .i64 E.op, .int .i64 E.of_, .string E.holder, .int .i64 E.kind, sv, .string E.text]) E := by
 obtain ⟨g, ad, c, rfl, hc⟩ := ownL_of h; exact ⟨ad, c, rfl, g, 0, fun p => (hc p).1, fun i hi => by rw [Nat.zero_add]; exact (hc (by omega)).2.2.cell hi⟩
def RetEv (e : Ending) (w w' : World) (p : Nat) (ad : Option Addr) (n c : Nat) (V : Nat → UInt8) (t : Nat) : Prop :=
 ∃ (v : Value) (E : Ev) (sv : Value) (lo : Nat), e = .returned v ∧ v = .agg #[.int .i64 E.op, .int .i64 E.of_, .string E.holder, .int .i64 E.kind, sv, .string E.text] ∧ w'.ownsRow lo 3 1 sv E.secs.length (E.secs.map (Value.int .i64)) ∧ (E.holder.size ≤ 20 ∧ E.text.size ≤ 400 ∧ E.secs.length ≤ 20) ∧ CurTo w' p ad n c V t 200 ∧ Fr (fun x => x = p) w w'
theorem seven {w : World} {A k : Nat} (h : w.heap[A]? = some (.cells #[.string ⟨#[]⟩, .string ⟨#[32]⟩, .string ⟨#[48]⟩, .string ⟨#[57]⟩, .string ⟨#[120]⟩, .string ⟨#[58, 32]⟩, .string ⟨#[65]⟩] 9 (0, 0))) (hk : k < 7) : ∃ x : ByteArray, w.cell? ⟨A, k, none⟩ = some (.string x) ∧ x.size ≤ 2 := by
 rcases (show k = 0 ∨ k = 1 ∨ k = 2 ∨ k = 3 ∨ k = 4 ∨ k = 5 ∨ k = 6 by omega) with rfl | rfl | rfl | rfl | rfl | rfl | rfl
 all_goals exact ⟨_, by simp [World.cell?, h]; rfl, by decide⟩
set_option maxHeartbeats 8000000 in
theorem line_of (p : Nat) (ad : Option Addr) (n c : Nat) (V : Nat → UInt8) (t : Nat) (B : Bk) (ao : Option Addr) (co : Nat) (al : Option Addr) (cl : Nat) (ac : Option Addr) (cc : Nat) (w : World) (ht : t ≤ 700000000) (hn : n ≤ 1048576) (hp : p < w.heap.size)
  (HE : Calls Tryz.prog 54 #[.pointer (some ⟨p, 0, none⟩), .agg #[.int .i64 B.n, .slice ao B.orders.length co, .slice al B.locked.length cl, .slice ac B.occ.length cc]] (w.alloc (.cells #[.int .i64 B.n, .slice ao B.orders.length co, .slice al B.locked.length cl, .slice ac B.occ.length cc] 37)) fun e w' => RetEv e (w.alloc (.cells #[.int .i64 B.n, .slice ao B.orders.length co, .slice al B.locked.length cl, .slice ac B.occ.length cc] 37)) w' p ad n c V t) :
  Calls Tryz.prog 44 #[.pointer (some ⟨p, 0, none⟩), .agg #[.int .i64 B.n, .slice ao B.orders.length co, .slice al B.locked.length cl, .slice ac B.occ.length cc]] w fun e w' => RetS e 302 ∧ Fr (fun x => x = p) w w' := by
 have HE' : Hid (Calls Tryz.prog 54 #[.pointer (some ⟨p, 0, none⟩), .agg #[.int .i64 B.n, .slice ao B.orders.length co, .slice al B.locked.length cl, .slice ac B.occ.length cc]] (w.alloc (.cells #[.int .i64 B.n, .slice ao B.orders.length co, .slice al B.locked.length cl, .slice ac B.occ.length cc] 37)) fun e w' => RetEv e (w.alloc (.cells #[.int .i64 B.n, .slice ao B.orders.length co, .slice al B.locked.length cl, .slice ac B.occ.length cc] 37)) w' p ad n c V t) := HE; clear HE; have B1 := below1 w (.cells #[.int .i64 B.n, .slice ao B.orders.length co, .slice al B.locked.length cl, .slice ac B.occ.length cc] 37)
 go_enter Tryz.func44, Tryz.ntmps44
 go_wp2_with fail
 refine HE'.out.mono ?_; clear HE'; rintro e w1 ⟨v, E, sv, lo, rfl, rfl, ho, ⟨h1, h2, h3⟩, hc, hf⟩; have H1 : Hid (w1.ownsRow lo 3 1 sv E.secs.length (E.secs.map (Value.int .i64)) ∧ CurTo w1 p ad n c V t 200 ∧ Fr (fun x => x = p) w w1) := ⟨ho, hc, (Fr.of_below B1).trans hf⟩; clear ho hc hf B1
 go_wp2_with fail
 refine (specLine_any _ E _ (by omega) (by omega) (by omega) (evAt_row H1.out.1)).mono ?_; rintro e w2 ⟨hr, hb2⟩; obtain ⟨s, rfl, hs⟩ := hr.len
 have H2 : Hid (CurTo w2 p ad n c V t 200 ∧ Fr (fun x => x = p) w w2) := by
  obtain ⟨t', a, b⟩ := H1.out.2.1; exact ⟨⟨t', a, b.below hb2⟩, H1.out.2.2.trans (Fr.of_below hb2)⟩
 clear hr hb2 H1
 go_wp2_with fail
 obtain ⟨t2, ht2, hc2⟩ := H2.out.1; refine (pick_any p ad n c V t2 6 _ (by omega) hn (by omega) hc2).mono ?_; clear hc2; rintro e w3 ⟨⟨r, rfl, -, hr⟩, ⟨u3, hu3, hv3⟩, hf3⟩; have hr6 : r < 6 := by have := hr (by omega); omega
 have H3 : Hid (CurTo w3 p ad n c V t 202 ∧ Fr (fun x => x = p) w w3) := ⟨⟨u3, by omega, hv3⟩, H2.out.2.trans hf3⟩; clear hr hv3 hf3 hu3 H2; go_wp2
 go_loopw [5, 6] (fun sv nv wr => ∃ (q : Nat) (s : ByteArray), q ≤ 1 ∧ nv = .int .i64 (q : Int) ∧ sv = .string s ∧ s.size + 2 * q ≤ 302 ∧ CurTo wr p ad n c V t (210 - 8 * q) ∧ Fr (fun x => x = p) w wr) (fun _ nv _ => (intOf nv).toNat)
 case atStart =>
  obtain ⟨t3, h9, hc3⟩ := H3.out.1; exact ⟨r / 4, s, by omega, by simp, rfl, by omega, ⟨t3, by omega, hc3⟩, H3.out.2⟩
 case round =>
  obtain ⟨q, s, hq, rfl, hsv, hsz, hcur, hfr⟩ := hrel; subst hsv; clear H3; have HW : Hid (CurTo wr p ad n c V t (210 - 8 * q) ∧ Fr (fun x => x = p) w wr) := ⟨hcur, hfr⟩; have zw : w.heap.size ≤ wr.heap.size := hfr.size; clear hcur hfr
  by_cases h0 : q = 0
  ·
   subst h0; go_wp2; go_ret; exact ⟨⟨s, rfl, by omega⟩, HW.out.2⟩
  obtain rfl : q = 1 := by omega
  go_wp2_with fail
  obtain ⟨t4, ht4, hc4⟩ := HW.out.1; refine (pick_any p ad n c V t4 _ _ (by omega) hn (by omega) hc4).mono ?_; clear hc4; rintro e w4 ⟨⟨i, rfl, hi0, hi1⟩, ⟨u4, hu4, hv4⟩, hf4⟩
  have hi : i ≤ s.size := by
   by_cases hz : s.size = 0
   · have := hi0 (by omega); omega
   · have := hi1 (by omega); omega
  have H4 : Hid (CurTo w4 p ad n c V t 204 ∧ Fr (fun x => x = p) w w4) := ⟨⟨u4, by omega, hv4⟩, HW.out.2.trans hf4⟩; clear hi0 hi1 hv4 hf4 hu4 ht4 HW
  go_wp2_with fail
  obtain ⟨t5, ht5, hc5⟩ := H4.out.1; refine (pick_any p ad n c V t5 3 _ (by omega) hn (by omega) hc5).mono ?_; clear hc5; rintro e w5 ⟨⟨d, rfl, -, hd⟩, ⟨u5, hu5, hv5⟩, hf5⟩; have hd3 : d < 3 := by have := hd (by omega); omega
  have H5 : Hid (CurTo w5 p ad n c V t 206 ∧ Fr (fun x => x = p) w w5) := ⟨⟨u5, by omega, hv5⟩, H4.out.2.trans hf5⟩; clear hd hv5 hf5 hu5 ht5 H4; have t0 : (0 : Int) ≤ (i : Int) + (d : Int) := by omega
  rcases (show s.size < i + d ∨ ¬ s.size < i + d by omega) with hj | hj
  all_goals (
   first | have tj : (s.size : Int) < (i : Int) + (d : Int) := by omega | have tj : ¬ (s.size : Int) < (i : Int) + (d : Int) := by omega
   go_wp2; refine wp_region_held_drew (S := fun _ => True) (by kernel_rfl) trivial (fun hS0 => ?_); refine tk 0 rfl ?_; refine tk 1 rfl ?_; refine tk 2 rfl ?_; refine tk 4 rfl ?_; refine tk 9 rfl ?_; refine tk 10 rfl ?_; refine tk 11 rfl ?_; refine wpAnyH_ready (rs := [3, 5]) (by kernel_rfl) (by simp) ?_; refine AllReadyH.cons rfl (fun Kx hK => ?_) (AllReadyH.cons rfl (fun Kx hK => ?_) (AllReadyH.nil))
   ·
    go_simp; have bq := (below1 w5 (.cells #[.string ⟨#[]⟩, .string ⟨#[32]⟩, .string ⟨#[48]⟩, .string ⟨#[57]⟩, .string ⟨#[120]⟩, .string ⟨#[58, 32]⟩, .string ⟨#[65]⟩] 9)).drew; have xa : (w5.alloc (.cells #[.string ⟨#[]⟩, .string ⟨#[32]⟩, .string ⟨#[48]⟩, .string ⟨#[57]⟩, .string ⟨#[120]⟩, .string ⟨#[58, 32]⟩, .string ⟨#[65]⟩] 9)).drew.heap[w5.heap.size]? = some (.cells #[.string ⟨#[]⟩, .string ⟨#[32]⟩, .string ⟨#[48]⟩, .string ⟨#[57]⟩, .string ⟨#[120]⟩, .string ⟨#[58, 32]⟩, .string ⟨#[65]⟩] 9 (0, 0)) := Deep.blk_alloc_new _ _; have za : w5.heap.size < (w5.alloc (.cells #[.string ⟨#[]⟩, .string ⟨#[32]⟩, .string ⟨#[48]⟩, .string ⟨#[57]⟩, .string ⟨#[120]⟩, .string ⟨#[58, 32]⟩, .string ⟨#[65]⟩] 9)).drew.heap.size := by simp
    have zp : p < w5.heap.size := Nat.lt_of_lt_of_le hp H5.out.2.size
    have HA : Hid (CurTo (w5.alloc (.cells #[.string ⟨#[]⟩, .string ⟨#[32]⟩, .string ⟨#[48]⟩, .string ⟨#[57]⟩, .string ⟨#[120]⟩, .string ⟨#[58, 32]⟩, .string ⟨#[65]⟩] 9)).drew p ad n c V t 206 ∧ Fr (fun x => x = p) w (w5.alloc (.cells #[.string ⟨#[]⟩, .string ⟨#[32]⟩, .string ⟨#[48]⟩, .string ⟨#[57]⟩, .string ⟨#[120]⟩, .string ⟨#[58, 32]⟩, .string ⟨#[65]⟩] 9)).drew) := by
     obtain ⟨t', a, b⟩ := H5.out.1; exact ⟨⟨t', a, b.below bq⟩, H5.out.2.trans (Fr.of_below bq)⟩
    obtain ⟨WA, hWq⟩ : ∃ x, x = (w5.alloc (.cells #[.string ⟨#[]⟩, .string ⟨#[32]⟩, .string ⟨#[48]⟩, .string ⟨#[57]⟩, .string ⟨#[120]⟩, .string ⟨#[58, 32]⟩, .string ⟨#[65]⟩] 9)).drew := ⟨_, rfl⟩; rw [← hWq] at HA xa za ⊢; clear hWq bq H5; refine hK.out _ _ trivial (fun hS1 => ?_); clear hK Kx; refine rdy1 5 rfl (fun Kx hK => ?_); go_simp; obtain ⟨t6, ht6, hc6⟩ := HA.out.1; refine (pick_any p ad n c V t6 7 _ (by omega) hn (by omega) hc6).mono ?_; clear hc6; rintro e w6 ⟨⟨k, rfl, -, hk⟩, ⟨u6, hu6, hv6⟩, hf6⟩; have hk7 : k < 7 := by have := hk (by omega); omega
    have x6 := (hf6.block _ za (by omega)).trans xa; have H6 : Hid (CurTo w6 p ad n c V t 208 ∧ Fr (fun x => x = p) w w6) := ⟨⟨u6, by omega, hv6⟩, HA.out.2.trans hf6⟩; have z6 : w5.heap.size < w6.heap.size := Nat.lt_of_lt_of_le za hf6.size; clear hk hv6 hf6 hu6 ht6 HA xa za; refine hK.out _ _ trivial (fun hS2 => ?_); clear hK Kx; have k7 : (k : Int) < 7 := by omega
    obtain ⟨x, hx, hxs⟩ := seven x6 hk7; clear x6; refine tk 6 rfl ?_; refine rdy1 7 rfl (fun Kx hK => ?_); go_simp; refine hK.out _ _ trivial (fun hS3 => ?_); clear hK Kx; have g1 : ¬ 9223372036854775807 < i + x.size := by omega
    have g2 : ¬ 9223372036854775807 < i + x.size + (s.size - ((i : Int) + (d : Int)).toNat) := by omega
    refine tk 8 rfl ?_; refine tk 12 rfl ?_; refine tk 13 rfl ?_; refine wpAnyH_done (by kernel_rfl) ?_ _; go_simp; go_wp2; go_roundw
    case rel => exact ⟨0, _, by omega, rfl, rfl, by (simp only [ByteArray.size_append, ByteArray.size_extract]; omega), H6.out.1.mono (by omega), H6.out.2⟩
    case measure => simp [intOf]
   ·
    go_simp; have zp : p < w5.heap.size := Nat.lt_of_lt_of_le hp H5.out.2.size; obtain ⟨t6, ht6, hc6⟩ := H5.out.1; refine (pick_any p ad n c V t6 7 _ (by omega) hn (by omega) (hc6.below (Below.refl _ _).drew)).mono ?_; clear hc6; rintro e w6 ⟨⟨k, rfl, -, hk⟩, ⟨u6, hu6, hv6⟩, hf6⟩; have hk7 : k < 7 := by have := hk (by omega); omega
    have H6 : Hid (CurTo w6 p ad n c V t 208 ∧ Fr (fun x => x = p) w w6) := ⟨⟨u6, by omega, hv6⟩, (H5.out.2.trans (Fr.of_below (Below.refl _ _).drew)).trans hf6⟩; clear hk hv6 hf6 hu6 ht6 H5; refine hK.out _ _ trivial (fun hS1 => ?_); clear hK Kx; refine rdy1 3 rfl (fun Kx hK => ?_); go_simp; have xa : (w6.alloc (.cells #[.string ⟨#[]⟩, .string ⟨#[32]⟩, .string ⟨#[48]⟩, .string ⟨#[57]⟩, .string ⟨#[120]⟩, .string ⟨#[58, 32]⟩, .string ⟨#[65]⟩] 9)).heap[w6.heap.size]? = some (.cells #[.string ⟨#[]⟩, .string ⟨#[32]⟩, .string ⟨#[48]⟩, .string ⟨#[57]⟩, .string ⟨#[120]⟩, .string ⟨#[58, 32]⟩, .string ⟨#[65]⟩] 9 (0, 0)) := Deep.blk_alloc_new _ _; have za : w6.heap.size < (w6.alloc (.cells #[.string ⟨#[]⟩, .string ⟨#[32]⟩, .string ⟨#[48]⟩, .string ⟨#[57]⟩, .string ⟨#[120]⟩, .string ⟨#[58, 32]⟩, .string ⟨#[65]⟩] 9)).heap.size := by simp
    have HA : Hid (CurTo (w6.alloc (.cells #[.string ⟨#[]⟩, .string ⟨#[32]⟩, .string ⟨#[48]⟩, .string ⟨#[57]⟩, .string ⟨#[120]⟩, .string ⟨#[58, 32]⟩, .string ⟨#[65]⟩] 9)) p ad n c V t 208 ∧ Fr (fun x => x = p) w (w6.alloc (.cells #[.string ⟨#[]⟩, .string ⟨#[32]⟩, .string ⟨#[48]⟩, .string ⟨#[57]⟩, .string ⟨#[120]⟩, .string ⟨#[58, 32]⟩, .string ⟨#[65]⟩] 9))) := by
     obtain ⟨t', a, b⟩ := H6.out.1; exact ⟨⟨t', a, b.below (below1 _ _)⟩, H6.out.2.trans (Fr.of_below (below1 _ _))⟩
    clear H6; obtain ⟨WA, hWq⟩ : ∃ x, x = (w6.alloc (.cells #[.string ⟨#[]⟩, .string ⟨#[32]⟩, .string ⟨#[48]⟩, .string ⟨#[57]⟩, .string ⟨#[120]⟩, .string ⟨#[58, 32]⟩, .string ⟨#[65]⟩] 9)) := ⟨_, rfl⟩; rw [← hWq] at HA xa za ⊢; clear hWq; have H6 := HA; clear HA; refine hK.out _ _ trivial (fun hS2 => ?_); clear hK Kx; have k7 : (k : Int) < 7 := by omega
    obtain ⟨x, hx, hxs⟩ := seven xa hk7; clear xa; refine tk 6 rfl ?_; refine rdy1 7 rfl (fun Kx hK => ?_); go_simp; refine hK.out _ _ trivial (fun hS3 => ?_); clear hK Kx; have g1 : ¬ 9223372036854775807 < i + x.size := by omega
    have g2 : ¬ 9223372036854775807 < i + x.size + (s.size - ((i : Int) + (d : Int)).toNat) := by omega
    refine tk 8 rfl ?_; refine tk 12 rfl ?_; refine tk 13 rfl ?_; refine wpAnyH_done (by kernel_rfl) ?_ _; go_simp; go_wp2; go_roundw
    case rel => exact ⟨0, _, by omega, rfl, rfl, by (simp only [ByteArray.size_append, ByteArray.size_extract]; omega), H6.out.1.mono (by omega), H6.out.2⟩
    case measure => simp [intOf])
end Go.Proofs.YtdlaekjofgbjcaaGreatDoor
