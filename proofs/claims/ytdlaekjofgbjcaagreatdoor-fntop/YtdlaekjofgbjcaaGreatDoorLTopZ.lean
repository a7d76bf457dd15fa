import Derived.Test.YtdlaekjofgbjcaaGreatDoorDonesZ
import Derived.Test.YtdlaekjofgbjcaaGreatDoorRowZ
import Derived.Test.YtdlaekjofgbjcaaGreatDoorWZ
import Derived.Test.YtdlaekjofgbjcaaGreatDoorIRun
import Derived.Test.YtdlaekjofgbjcaaGreatDoorAnsY
import Derived.Test.YtdlaekjofgbjcaaGreatDoorCurZ
import Derived.Test.YtdlaekjofgbjcaaGreatDoorDrawX
/-
 A book that is written over: what its memory still is. Mine, by template (wip/gen.py).
-/
namespace Go.Proofs.YtdlaekjofgbjcaaGreatDoor
open Go.RowKit
def PreE (w : World) (b : Nat) (t : TypeId) (n : Nat) : Prop := ∃ f, Pre w b t n f
theorem PreE.set {w : World} {b : Nat} {t : TypeId} {n : Nat} (h : PreE w b t n) (g i : Nat) (v : Value) : PreE (w.setCell ⟨g, i, none⟩ v) b t n := by
 obtain ⟨f, h⟩ := h
 by_cases e : b = g
 · subst e; exact ⟨_, h.set i v⟩
 · exact ⟨f, h.setOther (a := ⟨g, i, none⟩) e v⟩
theorem PreE.cell {w : World} {b : Nat} {t : TypeId} {n : Nat} (h : PreE w b t n) {i : Nat} (hi : i < n) : (∃ v, w.cell? ⟨b, i, none⟩ = some v) ∧ w.frozen? ⟨b, i, none⟩ = false ∧ b < w.heap.size := by
 obtain ⟨f, h⟩ := h; exact ⟨⟨_, h.cell hi⟩, h.frozen i, h.lt⟩
structure Hull (w : World) (R : Bk) (K : Blk) : Prop where
 ord : 0 < R.orders.length → ∃ f, Pre w K.G 41 (R.orders.length * 4) f ∧ ∀ k, k < R.orders.length → f (k * 4 + 2) = .slice (K.sa k) (bX R k).secs.length (K.sc k)
 sec : ∀ k, k < R.orders.length → 0 < (bX R k).secs.length → K.sa k = some ⟨K.gs k, 0, none⟩ ∧ K.gs k ≠ K.G ∧ PreE w (K.gs k) 3 (bX R k).secs.length
 lk : 0 < R.locked.length → PreE w K.L 4 R.locked.length
 oc : 0 < R.occ.length → PreE w K.C 4 R.occ.length
theorem OwnBook.hull {w : World} {lo : Nat} {v : Value} {R : Bk} {K : Blk} (h : OwnBook w lo v R K) : Hull w R K := by
 obtain ⟨⟨ao, co, al, cl, ac, cc, e, h1, h2, h3⟩, q1, q2, q3, q4, q5⟩ := h; refine ⟨fun hp => ⟨_, h1.row hp, fun k hk => ?_⟩, fun k hk hp => ⟨(h1.sec k hk hp).1, (h1.slow k hk hp).2, _, (h1.sec k hk hp).2⟩, fun hp => ⟨_, h2.row hp⟩, fun hp => ⟨_, h3.row hp⟩⟩; unfold ordCells; have e1 : (k * 4 + 2) / 4 = k := by omega
 have e2 : (k * 4 + 2) % 4 = 2 := by omega
 rw [e1, e2]; rfl
theorem Hull.state {w : World} {R : Bk} {K : Blk} (h : Hull w R K) (k : Nat) (v : Value) : Hull (w.setCell ⟨K.G, k * 4 + 3, none⟩ v) R K := by
 refine ⟨fun hp => ?_, fun j hj hp => ⟨(h.sec j hj hp).1, (h.sec j hj hp).2.1, (h.sec j hj hp).2.2.set _ _ _⟩, fun hp => (h.lk hp).set _ _ _, fun hp => (h.oc hp).set _ _ _⟩; obtain ⟨f, hf, he⟩ := h.ord hp; refine ⟨_, hf.set (k * 4 + 3) v, fun j hj => ?_⟩; have : ¬ (j * 4 + 2 = k * 4 + 3) := by omega
 show (if j * 4 + 2 = k * 4 + 3 then v else f (j * 4 + 2)) = _
 rw [if_neg this]; exact he j hj
theorem Hull.sect {w : World} {R : Bk} {K : Blk} (h : Hull w R K) {k : Nat} (hk : k < R.orders.length) (h0 : 0 < (bX R k).secs.length) (x : Nat) (v : Value) : Hull (w.setCell ⟨K.gs k, x, none⟩ v) R K := by
 refine ⟨fun hp => ?_, fun j hj hp => ⟨(h.sec j hj hp).1, (h.sec j hj hp).2.1, (h.sec j hj hp).2.2.set _ _ _⟩, fun hp => (h.lk hp).set _ _ _, fun hp => (h.oc hp).set _ _ _⟩; obtain ⟨f, hf, he⟩ := h.ord hp; exact ⟨f, hf.setOther (a := ⟨K.gs k, x, none⟩) (Ne.symm (h.sec k hk h0).2.1) v, he⟩
theorem Hull.cells {w : World} {R : Bk} {K : Blk} (h : Hull w R K) {k : Nat} (hk : k < R.orders.length) : w.cell? ⟨K.G, k * 4 + 2, none⟩ = some (.slice (K.sa k) (bX R k).secs.length (K.sc k)) ∧ (∃ v, w.cell? ⟨K.G, k * 4 + 3, none⟩ = some v) ∧ w.frozen? ⟨K.G, k * 4 + 3, none⟩ = false ∧ K.G < w.heap.size := by
 obtain ⟨f, hf, he⟩ := h.ord (by omega); exact ⟨(hf.cell (by omega)).trans (congrArg some (he k hk)), ⟨_, hf.cell (by omega)⟩, hf.frozen _, hf.lt⟩
def AheadB (R : Nat → Bk) (K : Nat → Blk) (i : Nat) (x : Nat) : Prop := ∃ j, j < i ∧ bookBlocks (R j) (K j) x
theorem ahead_mono {R : Nat → Bk} {K : Nat → Blk} {i j : Nat} (h : i ≤ j) (x : Nat) (hx : AheadB R K i x) : AheadB R K j x := by
 obtain ⟨q, h1, h2⟩ := hx; exact ⟨q, by omega, h2⟩
section
variable {w wr : World} {lo n : Nat} {C : Nat → Int} {R : Nat → Bk} {G : Nat} {s : Nat → Sl} {K : Nat → Blk} {i : Nat}
theorem OwnDones.head (h : OwnDones w lo n C R G s K) (hi : i ≤ n) (hf : Fr (AheadB R K i) w wr) {j : Nat} (hj : j < n) : wr.cell? ⟨G, j * 5 + 1, none⟩ = some (.int .i64 (R j).n) ∧ wr.cell? ⟨G, j * 5 + 2, none⟩ = some (.slice (s j).ao (R j).orders.length (s j).co) ∧ wr.cell? ⟨G, j * 5 + 3, none⟩ = some (.slice (s j).al (R j).locked.length (s j).cl) ∧ wr.cell? ⟨G, j * 5 + 4, none⟩ = some (.slice (s j).ac (R j).occ.length (s j).cc) ∧ G < wr.heap.size := by
 have hG : ¬ AheadB R K i G := fun ⟨q, h1, h2⟩ => h.dis q (by omega) G h2 rfl; have hl := (h.row (by omega)).lt; have e := hf.block G hl hG; obtain ⟨-, c1, c2, c3, c4, -⟩ := h.cells hj; exact ⟨(World.cell?_of_block e).trans c1, (World.cell?_of_block e).trans c2, (World.cell?_of_block e).trans c3, (World.cell?_of_block e).trans c4, Nat.lt_of_lt_of_le hl hf.size⟩
theorem OwnDones.bookF (h : OwnDones w lo n C R G s K) (hf : Fr (AheadB R K i) w wr) {j : Nat} (hj : j < n) (hij : i ≤ j) : OwnBook wr lo (bookV (R j) (s j)) (R j) (K j) :=
 (h.own j hj).fr hf (fun x hx ⟨q, h1, h2⟩ => h.apart q j (by omega) hj (by omega) x h2 hx)
theorem OwnDones.outF (h : OwnDones w lo n C R G s K) (hi : i ≤ n) (hf : Fr (AheadB R K i) w wr) (hl : lo ≤ w.heap.size) : Below lo w wr :=
 hf.below hl (fun x ⟨q, h1, h2⟩ => (h.own q (by omega)).blocks_low h2)
end
end Go.Proofs.YtdlaekjofgbjcaaGreatDoor
/-
 The law FnTop: its walk. Mine, by template (wip/gen.py).
-/
namespace Go.Proofs.YtdlaekjofgbjcaaGreatDoor
open Go.RowKit
def RetDX (e : Ending) (w w' : World) (m : Int) (N : Nat) (X : Nat → Ev) : Prop := ∃ ad c, e = .returned (.tuple #[.int .i64 m, .slice ad N c]) ∧ (1 ≤ m ∧ m ≤ 9) ∧ N ≤ 60 ∧ (∀ i, i < N → (X i).holder.size ≤ 1048576 ∧ (X i).text.size ≤ 1048576 ∧ (X i).secs.length ≤ 1048576) ∧ EventsAt w' ad N X ∧ Below w.heap.size w w'
theorem right_first' {m : Int} (h : 1 ≤ m ∧ m ≤ 60) : Right (beginBk m) := by
 unfold beginBk; rw [if_pos h]; exact ⟨⟨h, by simp; omega, by simp; omega, by simp⟩, fun i hi => absurd hi (by simp), fun i hi => absurd hi (by simp), fun i hi => absurd hi (by simp)⟩
def Fine (B : Bk) : Prop := Right B ∧ (B.orders.length ≤ 1048576 ∧ ∀ i, i < B.orders.length → (bX B i).secs.length ≤ 1048576 ∧ (bX B i).holder.size ≤ 1048576) ∧ Few B
theorem fine_run {m : Int} (h : 1 ≤ m ∧ m ≤ 9) (X : Nat → Ev) (j : Nat) : Fine (rB (beginBk m) X j) := by
 have hR := right_rB (right_first' ⟨h.1, by omega⟩) X j; have hS := small_rB (begin_tiny m).1 (begin_tiny m).2.1 X j; have hT := tiny_rB (begin_tiny m).1 X j; exact ⟨hR, hS, hS.1, fun i hi => (hS.2 i hi).1, Nat.le_trans hT.l (by decide), Nat.le_trans hT.c (by decide)⟩
theorem Fine.locks {B : Bk} (h : Fine B) : B.occ.length = B.locked.length := by
 have h1 := h.1.1.2.1; have h2 := h.1.1.2.2.1; omega
theorem dones_at {w : World} {lo n : Nat} {C : Nat → Int} {R : Nat → Bk} {G : Nat} {s : Nat → Sl} {K : Nat → Blk} (h : OwnDones w lo n C R G s K) {ad : Option Addr} (had : 0 < n → ad = some ⟨G, 0, none⟩) : DonesAt w ad n C R :=
 ⟨G, 0, had, fun i hi => ⟨s i, by rw [Nat.zero_add]; exact h.cells hi⟩⟩
set_option maxRecDepth 20000 in
set_option maxHeartbeats 32000000 in
theorem fnTop_walk0 (A : Nat → Addr) (ad : Option Addr) (c n : Nat) (V : Nat → UInt8) (w : World) (m : Int) (N : Nat) (X : Nat → Ev) (hE : Errs w A) (hT : Lib.TabIs Tryz.prog w "internal/strconv.uint64pow10" .u64 Lib.pow10Tab) (G : BytesAt w ad n V)
  (HD : n ≤ 1048576 → ∀ W, BytesAt W ad n V → Calls Tryz.prog 6 #[.slice ad n c] W fun e w' => RetDX e W w' m N X) :
  Calls Tryz.prog 3 #[.slice ad n c] w fun e w' => e = .returned (.bool true) ∧ Below w.heap.size w w' := by
 have HG0 : Hid (BytesAt w ad n V ∧ Errs w A ∧ Lib.TabIs Tryz.prog w "internal/strconv.uint64pow10" .u64 Lib.pow10Tab ∧ (n ≤ 1048576 → ∀ W, BytesAt W ad n V → Calls Tryz.prog 6 #[.slice ad n c] W fun e w' => RetDX e W w' m N X)) := ⟨G, hE, hT, HD⟩; clear G hE hT HD
 go_enter Tryz.func3, Tryz.ntmps3
 by_cases hbig : 1048576 < n
 ·
  have t : (1048576 : Int) < (n : Int) := by omega
  go_wp2; go_ret; exact ⟨rfl, Below.refl _ _⟩
 have hn : n ≤ 1048576 := by omega
 have tb : ¬ (1048576 : Int) < (n : Int) := by omega
 clear hbig
 go_wp2_with fail
 refine (HG0.out.2.2.2 hn w HG0.out.1).mono ?_; rintro e w1 ⟨adX, cX, rfl, hm, hN, hX, hX1, hb1⟩; have HG : Hid (BytesAt w ad n V ∧ Errs w A ∧ Lib.TabIs Tryz.prog w "internal/strconv.uint64pow10" .u64 Lib.pow10Tab ∧ (n ≤ 1048576 → ∀ W, BytesAt W ad n V → Calls Tryz.prog 6 #[.slice ad n c] W fun e w' => RetDX e W w' m N X) ∧ (∀ i, i < N → (X i).holder.size ≤ 1048576 ∧ (X i).text.size ≤ 1048576 ∧ (X i).secs.length ≤ 1048576) ∧ ∀ j, Fine (rB (beginBk m) X j)) := ⟨HG0.out.1, HG0.out.2.1, HG0.out.2.2.1, HG0.out.2.2.2, hX, fine_run hm X⟩; clear HG0 hX; have H1 : Hid (EventsAt w1 adX N X ∧ Below w.heap.size w w1) := ⟨hX1, hb1⟩; clear hX1 hb1
 go_wp2_with fail
 refine (HG.out.2.2.2.1 hn w1 (HG.out.1.below H1.out.2)).mono ?_; rintro e w2 ⟨adY, cY, rfl, -, -, -, hY2, hb2⟩; have H2 : Hid (EventsAt w2 adX N X ∧ EventsAt w2 adY N X ∧ Below w.heap.size w w2) := ⟨H1.out.1.below hb2, hY2, below_trans H1.out.2 H1.out.2.size hb2⟩; clear hY2 hb2 H1
 go_wp2_with fail
 refine (specRun_any m adY cY N X w2 (by omega) HG.out.2.2.2.2.1 H2.out.2.1).mono ?_; rintro e w3 ⟨M, adW, cW, GW, slW, KW, hM, rfl, haW, hDW, hb3⟩
 obtain rfl : M = N := by
  rcases hM with h | h
  · exact h.2
  · exact absurd ⟨⟨hm.1, by omega⟩, by omega⟩ h.1
 have H3 : Hid (EventsAt w3 adX M X ∧ EventsAt w3 adY M X ∧ Below w.heap.size w w3 ∧ DonesAt w3 adW M (rC (beginBk m) X) (fun i => rB (beginBk m) X (i + 1))) := ⟨H2.out.1.below hb3, H2.out.2.1.below hb3, below_trans H2.out.2.2 H2.out.2.2.size hb3, dones_at hDW haW⟩; clear hDW hb3 H2 haW hM
 go_wp2_with fail
 refine (implRun_any A m adX cX M X w3 (HG.out.2.1.below H3.out.2.2.1) (tab_below HG.out.2.2.1 H3.out.2.2.1) (by omega) HG.out.2.2.2.2.1 H3.out.1).mono ?_; rintro e w4 ⟨M', adD, cD, GD, sl, K, hM, rfl, haD, hD, hb4⟩
 obtain rfl : M' = M := by
  rcases hM with h | h
  · exact h.2
  · exact absurd ⟨⟨hm.1, by omega⟩, by omega⟩ h.1
 obtain ⟨C, hC⟩ : ∃ C, C = rC (beginBk m) X := ⟨_, rfl⟩; obtain ⟨R, hR⟩ : ∃ R : Nat → Bk, R = fun i => rB (beginBk m) X (i + 1) := ⟨_, rfl⟩; have HF : Hid (∀ i, Fine (R i)) := fun i => by rw [hR]; exact HG.out.2.2.2.2.2 (i + 1)
 have HRun : Hid (∀ W, Below w.heap.size w W → EventsAt W adX M' X → Calls Tryz.prog 8 #[.int .i64 m, .slice adX M' cX] W fun e w' => ∃ ad' c' G' s' K', e = .returned (.slice ad' M' c') ∧ (0 < M' → ad' = some ⟨G', 0, none⟩) ∧ OwnDones w' W.heap.size M' C R G' s' K' ∧ Below W.heap.size W w') := fun W hbW hW => by
  refine (implRun_any A m adX cX M' X W (HG.out.2.1.below hbW) (tab_below HG.out.2.2.1 hbW) (by omega) HG.out.2.2.2.2.1 hW).mono ?_; rintro e w' ⟨Q, ad', c', G', s', K', hQ, rfl, h1, h2, h3⟩
  obtain rfl : Q = M' := by
   rcases hQ with h | h
   · exact h.2
   · exact absurd ⟨⟨hm.1, by omega⟩, by omega⟩ h.1
  exact ⟨ad', c', G', s', K', rfl, h1, by rw [hC, hR]; exact h2, h3⟩
 rw [← hC, ← hR] at hD H3; have H4 : Hid (OwnDones w4 w3.heap.size M' C R GD sl K ∧ (0 < M' → adD = some ⟨GD, 0, none⟩) ∧ Below w3.heap.size w3 w4) := ⟨hD, haD, hb4⟩; have HX : Hid (∀ i, i < M' → (X i).holder.size ≤ 1048576 ∧ (X i).text.size ≤ 1048576 ∧ (X i).secs.length ≤ 1048576) := HG.out.2.2.2.2.1; clear hD haD hb4 hM HG hC hR
 go_wp2_with fail
 refine (wDone_same adD adW cD cW M' C R w4 (by omega) (fun i _ => (HF.out i).2.2) (dones_at H4.out.1 H4.out.2.1) (H3.out.2.2.2.below H4.out.2.2)).mono ?_; rintro e w5 ⟨rfl, hb5⟩; have H5 : Hid (OwnDones w5 w3.heap.size M' C R GD sl K ∧ Below w3.heap.size w3 w5) := ⟨H4.out.1.below hb5, below_trans H4.out.2.2 H4.out.2.2.size hb5⟩; clear hb5; go_wp2
 go_loopw [39] (fun iv wr => ∃ k : Nat, k ≤ M' ∧ iv = .int .i64 k ∧ Below w5.heap.size w5 wr) (fun iv _ => M' - (intOf iv).toNat)
 case atStart => exact ⟨0, Nat.zero_le _, rfl, Below.refl _ _⟩
 case round =>
  obtain ⟨k, hk, rfl, hb⟩ := hrel; have hb3 : Below w3.heap.size w3 wr := below_trans H5.out.2 H5.out.2.size hb
  by_cases hlt : k < M'
  ·
   obtain ⟨b1, o1, h1, g1⟩ := H3.out.1.below hb3; obtain ⟨b2, o2, h2, g2⟩ := H3.out.2.1.below hb3; obtain rfl := h1 (by omega); obtain rfl := h2 (by omega); obtain ⟨sa1, sc1, q1⟩ := g1 k hlt; obtain ⟨sa2, sc2, q2⟩ := g2 k hlt; have x1 := q1.c4; have x2 := q2.c4; have HQ : Hid (Cells wr sa1 (X k).secs.length (iV (X k).secs) ∧ Cells wr sa2 (X k).secs.length (iV (X k).secs) ∧ Below w5.heap.size w5 wr) := ⟨q1.secs, q2.secs, hb⟩; have l1 : b1 < wr.heap.size := World.block_lt_of_cell? _ _ x1; have l2 : b2 < wr.heap.size := World.block_lt_of_cell? _ _ x2; have hz : (0 : Int) ≤ (k : Int) := by omega
   have hlz : (k : Int) < (M' : Int) := by omega
   have hsk : (X k).secs.length ≤ 4294967296 := by
    have := (HX.out k hlt).2.2; omega
   clear g1 g2 h1 h2 q1 q2 hb hb3; go_wp2; refine wp_region_held_drew (S := fun w' => w'.cell? ⟨b1, o1 + k * 6 + 4, none⟩ = some (.slice sa1 (X k).secs.length sc1) ∧ w'.cell? ⟨b2, o2 + k * 6 + 4, none⟩ = some (.slice sa2 (X k).secs.length sc2)) (by kernel_rfl) ⟨x1, x2⟩ (fun hS0 => ?_); refine tk 0 rfl ?_; refine tk 1 rfl ?_; refine tk 2 rfl ?_; refine tk 3 rfl ?_; refine tk 4 rfl ?_; refine tk 5 rfl ?_; refine tk 6 rfl ?_; refine tk 7 rfl ?_; refine tk 8 rfl ?_; refine tk 9 rfl ?_; refine rdy1 10 rfl (fun Kx hK => ?_); go_simp; have bd : Below wr.heap.size wr wr.drew := (Below.refl _ _).drew; refine (wInts_same sa1 sa2 sc1 sc2 _ (fun i => (X k).secs.getD i 0) _ hsk (HQ.out.1.below bd) (HQ.out.2.1.below bd)).mono ?_; rintro e w6 ⟨rfl, hb6⟩; have hb7 : Below wr.heap.size wr w6 := bd.trans hb6; have H7 : Hid (Below w5.heap.size w5 w6) := below_trans HQ.out.2.2 HQ.out.2.2.size hb7; refine hK.out _ _ ⟨(hb7.cell (p := ⟨b1, o1 + k * 6 + 4, none⟩) l1).trans x1, (hb7.cell (p := ⟨b2, o2 + k * 6 + 4, none⟩) l2).trans x2⟩ (fun hS1 => ?_); clear hK Kx bd hb6 hb7 HQ x1 x2 hS0; refine tk 11 rfl ?_; refine wpAnyH_done (by kernel_rfl) ?_ _; go_simp; go_wp2; go_roundw
   case rel => exact ⟨k + 1, by omega, by go_num, H7.out⟩
   case measure => simp [intOf]; omega
  obtain rfl : k = M' := by omega
  obtain ⟨wb, hwb⟩ : ∃ x, x = wr := ⟨_, rfl⟩; have H6 : Hid (OwnDones wb w3.heap.size k C R GD sl K ∧ Below w3.heap.size w3 wb) := by rw [hwb]; exact ⟨H5.out.1.below hb, hb3⟩
  rw [← hwb]; clear hwb hb hb3 H5 hlt; go_wp2
  go_loopw [57] (fun iv wr => ∃ i : Nat, i ≤ k ∧ iv = .int .i64 i ∧ Fr (AheadB R K i) wb wr) (fun iv _ => k - (intOf iv).toNat)
  case atStart => exact ⟨0, Nat.zero_le _, rfl, Fr.refl _ _⟩
  case round =>
   obtain ⟨i, hi, rfl, hf⟩ := hrel
   by_cases hil : i < k
   ·
    obtain ⟨y1, y2, y3, y4, lG⟩ := H6.out.1.head hi hf hil; obtain rfl := H4.out.2.1 (by omega); have ob := H6.out.1.bookF hf hil (Nat.le_refl _); have z0 : (0 : Int) ≤ (i : Int) := by omega
    have z1 : (i : Int) < (k : Int) := by omega
    have HP : Hid ((0 < (R i).orders.length → (sl i).ao = some ⟨(K i).G, 0, none⟩) ∧ (0 < (R i).locked.length → (sl i).al = some ⟨(K i).L, 0, none⟩) ∧ (0 < (R i).occ.length → (sl i).ac = some ⟨(K i).C, 0, none⟩)) := by
     obtain ⟨ao, co, al, cl, ac, cc, e, h1, h2, h3⟩ := ob.shape; unfold bookV at e; simp only [Value.agg.injEq, Array.mk.injEq, List.cons.injEq, Value.slice.injEq, and_true, true_and] at e; obtain ⟨⟨e1, -⟩, ⟨e2, -⟩, e3, -⟩ := e; exact ⟨fun h => e1.trans (h1.head h), fun h => e2.trans (h2.head h), fun h => e3.trans (h3.head h)⟩
    have HO : Hid (Fr (AheadB R K i) wb wr ∧ BookAt wr (bookV (R i) (sl i)) (R i)) := ⟨hf, ob.bookAt⟩; clear hf ob
    go_wp2_with fail
    refine (implBookOk_any _ (R i) wr (HF.out i).2.1.1 (HF.out i).2.1.2 HO.out.2).mono ?_; rintro e w6 ⟨⟨cd, rfl, hcd⟩, hb6⟩; obtain rfl : cd = 0 := hcd.right.2 (HF.out i).1; have F6 : Fr (AheadB R K i) wb w6 := HO.out.1.trans (Fr.of_below hb6); have HI : Hid (Fr (AheadB R K (i + 1)) wb w6 ∧ Hull w6 (R i) (K i)) := ⟨F6.mono (ahead_mono (by omega)), (H6.out.1.bookF F6 hil (Nat.le_refl _)).hull⟩; clear y1 y2 y3 y4 lG; obtain ⟨y1, y2, y3, y4, lG⟩ := H6.out.1.head hi F6 hil; clear hcd hb6 F6 HO; have ho20 : (R i).orders.length ≤ 1048576 := (HF.out i).2.1.1; go_wp2; clear y1 y2 y3 y4 lG
    go_loopw [74] (fun iv wq => ∃ j : Nat, j ≤ (R i).orders.length ∧ iv = .int .i64 j ∧ Fr (AheadB R K (i + 1)) wb wq ∧ Hull wq (R i) (K i)) (fun iv _ => (R i).orders.length - (intOf iv).toNat)
    case atStart => exact ⟨0, Nat.zero_le _, rfl, HI.out⟩
    case round =>
     obtain ⟨j, hj, rfl, hf, hu⟩ := hrel; clear HI
     by_cases hjl : j < (R i).orders.length
     ·
      obtain ⟨y1, y2, y3, y4, lG⟩ := H6.out.1.head (by omega) hf hil; rw [HP.out.1 (by omega)] at y2; obtain ⟨c2, ⟨v3, c3⟩, f3, lo⟩ := hu.cells hjl; have z2 : (0 : Int) ≤ (j : Int) := by omega
      have z3 : (j : Int) < ((R i).orders.length : Int) := by omega
      have HJ : Hid (Fr (AheadB R K (i + 1)) wb (wr.setCell ⟨(K i).G, j * 4 + 3, none⟩ (.int .i64 77)) ∧ Hull (wr.setCell ⟨(K i).G, j * 4 + 3, none⟩ (.int .i64 77)) (R i) (K i)) := ⟨hf.setCell (p := ⟨(K i).G, j * 4 + 3, none⟩) ⟨i, by omega, Or.inl (Or.inl ⟨by omega, rfl⟩)⟩ _, hu.state j _⟩; clear hf hu
      go_upto_region 24 with (fail)
      obtain ⟨W1, hW1⟩ : ∃ W, W = wr.setCell ⟨(K i).G, j * 4 + 3, none⟩ (.int .i64 77) := ⟨_, rfl⟩; rw [← hW1] at HJ ⊢; clear hW1 y1 y2 y3 y4 lG c2 c3 f3 lo; obtain ⟨y1, y2, y3, y4, lG⟩ := H6.out.1.head (by omega) HJ.out.1 hil; rw [HP.out.1 (by omega)] at y2; obtain ⟨c2, -, -, lo⟩ := HJ.out.2.cells hjl; have hs20 : (bX (R i) j).secs.length ≤ 1048576 := ((HF.out i).2.1.2 j hjl).1; go_wp2; clear y1 y2 y3 y4 lG c2 lo
      go_loopw [97] (fun iv wq => ∃ x : Nat, x ≤ (bX (R i) j).secs.length ∧ iv = .int .i64 x ∧ Fr (AheadB R K (i + 1)) wb wq ∧ Hull wq (R i) (K i)) (fun iv _ => (bX (R i) j).secs.length - (intOf iv).toNat)
      case atStart => exact ⟨0, Nat.zero_le _, rfl, HJ.out⟩
      case round =>
       obtain ⟨x, hx, rfl, hf, hu⟩ := hrel; clear HJ
       by_cases hxl : x < (bX (R i) j).secs.length
       ·
        obtain ⟨y1, y2, y3, y4, lG⟩ := H6.out.1.head (by omega) hf hil; rw [HP.out.1 (by omega)] at y2; obtain ⟨c2, -, -, lo⟩ := hu.cells hjl; obtain ⟨q1, q2, q3⟩ := hu.sec j hjl (by omega); rw [q1] at c2; obtain ⟨⟨v5, c5⟩, f5, l5⟩ := q3.cell hxl; have z4 : (0 : Int) ≤ (x : Int) := by omega
        have z5 : (x : Int) < ((bX (R i) j).secs.length : Int) := by omega
        have HY : Hid (Fr (AheadB R K (i + 1)) wb (wr.setCell ⟨(K i).gs j, x, none⟩ (.int .i64 77)) ∧ Hull (wr.setCell ⟨(K i).gs j, x, none⟩ (.int .i64 77)) (R i) (K i)) := ⟨hf.setCell (p := ⟨(K i).gs j, x, none⟩) ⟨i, by omega, Or.inl (Or.inr ⟨j, hjl, by omega, rfl⟩)⟩ _, hu.sect hjl (by omega) x _⟩; clear hf hu q1 q2 q3; go_wp2; go_roundw
        case rel => exact ⟨x + 1, by omega, by go_num, HY.out⟩
        case measure => simp [intOf]; omega
       ·
        have HY : Hid (Fr (AheadB R K (i + 1)) wb wr ∧ Hull wr (R i) (K i)) := ⟨hf, hu⟩; clear hf hu; go_wp2; go_roundw
        case rel => exact ⟨j + 1, by omega, by go_num, HY.out⟩
        case measure => simp [intOf]; omega
     ·
      obtain ⟨y1, y2, y3, y4, lG⟩ := H6.out.1.head (by omega) hf hil; have HK : Hid (Fr (AheadB R K (i + 1)) wb wr ∧ (0 < (R i).locked.length → PreE wr (K i).L 4 (R i).locked.length) ∧ (0 < (R i).occ.length → PreE wr (K i).C 4 (R i).occ.length)) := ⟨hf, hu.lk, hu.oc⟩; have hl20 : (R i).locked.length ≤ 1048576 := (HF.out i).2.2.2.2.1; have hlo : (R i).occ.length = (R i).locked.length := (HF.out i).locks; have HLO : Hid ((R i).occ.length = (R i).locked.length) := hlo; clear hf hu hlo; go_wp2; clear y1 y2 y3 y4 lG
      go_loopw [121] (fun iv wq => ∃ x : Nat, x ≤ (R i).locked.length ∧ iv = .int .i64 x ∧ Fr (AheadB R K (i + 1)) wb wq ∧ (0 < (R i).locked.length → PreE wq (K i).L 4 (R i).locked.length) ∧ (0 < (R i).occ.length → PreE wq (K i).C 4 (R i).occ.length)) (fun iv _ => (R i).locked.length - (intOf iv).toNat)
      case atStart => exact ⟨0, Nat.zero_le _, rfl, HK.out⟩
      case round =>
       obtain ⟨x, hx, rfl, hf, hL, hC⟩ := hrel; clear HK
       by_cases hxl : x < (R i).locked.length
       ·
        have hoc : x < (R i).occ.length := by have := HLO.out; omega
        obtain ⟨y1, y2, y3, y4, lG⟩ := H6.out.1.head (by omega) hf hil; rw [HP.out.2.1 (by omega)] at y3; obtain ⟨⟨v5, c5⟩, f5, l5⟩ := (hL (by omega)).cell hxl; have z4 : (0 : Int) ≤ (x : Int) := by omega
        have z5 : (x : Int) < ((R i).locked.length : Int) := by omega
        have z6 : (x : Int) < ((R i).occ.length : Int) := by omega
        have HY : Hid (Fr (AheadB R K (i + 1)) wb (wr.setCell ⟨(K i).L, x, none⟩ (.bool true)) ∧ (0 < (R i).locked.length → PreE (wr.setCell ⟨(K i).L, x, none⟩ (.bool true)) (K i).L 4 (R i).locked.length) ∧ (0 < (R i).occ.length → PreE (wr.setCell ⟨(K i).L, x, none⟩ (.bool true)) (K i).C 4 (R i).occ.length)) := ⟨hf.setCell (p := ⟨(K i).L, x, none⟩) ⟨i, by omega, Or.inr (Or.inl ⟨by omega, rfl⟩)⟩ _, fun h => (hL h).set _ _ _, fun h => (hC h).set _ _ _⟩; clear hf hL hC
        go_upto_region 34 with (fail)
        obtain ⟨W1, hW1⟩ : ∃ W, W = wr.setCell ⟨(K i).L, x, none⟩ (.bool true) := ⟨_, rfl⟩; rw [← hW1] at HY ⊢; clear hW1 y1 y2 y3 y4 lG c5 f5 l5; obtain ⟨y1, y2, y3, y4, lG⟩ := H6.out.1.head (by omega) HY.out.1 hil; rw [HP.out.2.2 (by omega)] at y4; obtain ⟨⟨v6, c6⟩, f6, l6⟩ := (HY.out.2.2 (by omega)).cell hoc; have HZ : Hid (Fr (AheadB R K (i + 1)) wb (W1.setCell ⟨(K i).C, x, none⟩ (.bool true)) ∧ (0 < (R i).locked.length → PreE (W1.setCell ⟨(K i).C, x, none⟩ (.bool true)) (K i).L 4 (R i).locked.length) ∧ (0 < (R i).occ.length → PreE (W1.setCell ⟨(K i).C, x, none⟩ (.bool true)) (K i).C 4 (R i).occ.length)) := ⟨HY.out.1.setCell (p := ⟨(K i).C, x, none⟩) ⟨i, by omega, Or.inr (Or.inr ⟨by omega, rfl⟩)⟩ _, fun h => (HY.out.2.1 h).set _ _ _, fun h => (HY.out.2.2 h).set _ _ _⟩; clear HY; go_wp2; go_roundw
        case rel => exact ⟨x + 1, by omega, by go_num, HZ.out⟩
        case measure => simp [intOf]; omega
       ·
        have HY : Hid (Fr (AheadB R K (i + 1)) wb wr) := hf; clear hf hL hC
        by_cases hnx : i + 1 < k
        ·
         have hb3 : Below w3.heap.size w3 wr := H6.out.2.trans (H6.out.1.outF (by omega) HY.out H6.out.2.size); obtain ⟨bW, oW, hW, gW⟩ := H3.out.2.2.2.below hb3; obtain rfl := hW (by omega); obtain ⟨sW, u0, u1, u2, u3, u4, u5⟩ := gW (i + 1) hnx; obtain ⟨y1, y2, y3, y4, lG⟩ := H6.out.1.head (by omega) HY.out hnx; have ob := (H6.out.1.bookF HY.out hnx (Nat.le_refl _)).bookAt; have HV : Hid (BookAt wr (bookV (R (i + 1)) (sl (i + 1))) (R (i + 1)) ∧ BookAt wr (.agg #[.int .i64 (R (i + 1)).n, .slice sW.ao (R (i + 1)).orders.length sW.co, .slice sW.al (R (i + 1)).locked.length sW.cl, .slice sW.ac (R (i + 1)).occ.length sW.cc]) (R (i + 1)) ∧ Few (R (i + 1))) := ⟨ob, u5, (HF.out (i + 1)).2.2⟩; have lW : bW < wr.heap.size := World.block_lt_of_cell? _ _ u0; have z4 : (0 : Int) ≤ (i : Int) + 1 := by omega
         have z5 : (i : Int) + 1 < (k : Int) := by omega
         have z6 : ((i : Int) + 1).toNat = i + 1 := by omega
         have hw1 : IntKind.i64.wrap ((i : Int) + 1) = (i : Int) + 1 := by simp [IntKind.wrap, IntKind.signed, IntKind.bits]; omega
         clear hb3 hW gW u0 u5 ob; go_wp2; refine wp_region_held_drew (S := fun w' => w'.cell? ⟨GD, (i + 1) * 5 + 1, none⟩ = some (.int .i64 (R (i + 1)).n) ∧ w'.cell? ⟨GD, (i + 1) * 5 + 2, none⟩ = some (.slice (sl (i + 1)).ao (R (i + 1)).orders.length (sl (i + 1)).co) ∧ w'.cell? ⟨GD, (i + 1) * 5 + 3, none⟩ = some (.slice (sl (i + 1)).al (R (i + 1)).locked.length (sl (i + 1)).cl) ∧ w'.cell? ⟨GD, (i + 1) * 5 + 4, none⟩ = some (.slice (sl (i + 1)).ac (R (i + 1)).occ.length (sl (i + 1)).cc) ∧ w'.cell? ⟨bW, oW + (i + 1) * 5 + 1, none⟩ = some (.int .i64 (R (i + 1)).n) ∧ w'.cell? ⟨bW, oW + (i + 1) * 5 + 2, none⟩ = some (.slice sW.ao (R (i + 1)).orders.length sW.co) ∧ w'.cell? ⟨bW, oW + (i + 1) * 5 + 3, none⟩ = some (.slice sW.al (R (i + 1)).locked.length sW.cl) ∧ w'.cell? ⟨bW, oW + (i + 1) * 5 + 4, none⟩ = some (.slice sW.ac (R (i + 1)).occ.length sW.cc)) (by kernel_rfl) ⟨y1, y2, y3, y4, u1, u2, u3, u4⟩ (fun hS0 => ?_); refine tk 0 rfl ?_; refine tk 1 rfl ?_; refine tk 2 rfl ?_; refine tk 3 rfl ?_; refine tk 4 rfl ?_; refine tk 5 rfl ?_; refine tk 6 rfl ?_; refine tk 7 rfl ?_; refine tk 8 rfl ?_; refine tk 9 rfl ?_; refine tk 10 rfl ?_; refine tk 11 rfl ?_; refine tk 12 rfl ?_; refine tk 13 rfl ?_; refine tk 14 rfl ?_; refine tk 15 rfl ?_; refine tk 16 rfl ?_; refine tk 17 rfl ?_; refine rdy1 18 rfl (fun Kx hK => ?_); go_simp; have bd : Below wr.heap.size wr wr.drew := (Below.refl _ _).drew; refine (wBook_same _ _ (R (i + 1)) _ HV.out.2.2.1 (fun q hq => Nat.le_trans (HV.out.2.2.2.1 q hq) (by decide)) (Nat.le_trans HV.out.2.2.2.2.1 (by decide)) (Nat.le_trans HV.out.2.2.2.2.2 (by decide)) (HV.out.1.below bd) (HV.out.2.1.below bd)).mono ?_; rintro e w7 ⟨rfl, hb7⟩; have hb8 : Below wr.heap.size wr w7 := bd.trans hb7; have cc1 : ∀ o, w7.cell? ⟨GD, o, none⟩ = wr.cell? ⟨GD, o, none⟩ := fun o => hb8.cell (p := ⟨GD, o, none⟩) lG; have cc2 : ∀ o, w7.cell? ⟨bW, o, none⟩ = wr.cell? ⟨bW, o, none⟩ := fun o => hb8.cell (p := ⟨bW, o, none⟩) lW; have HZ : Hid (Fr (AheadB R K (i + 1)) wb w7) := HY.out.trans (Fr.of_below hb8); refine hK.out _ _ ⟨(cc1 _).trans y1, (cc1 _).trans y2, (cc1 _).trans y3, (cc1 _).trans y4, (cc2 _).trans u1, (cc2 _).trans u2, (cc2 _).trans u3, (cc2 _).trans u4⟩ (fun hS1 => ?_); clear hK Kx cc1 cc2 hb7 hb8 bd HV HY y1 y2 y3 y4 u1 u2 u3 u4 hS0; refine tk 19 rfl ?_; refine tk 20 rfl ?_; refine wpAnyH_done (by kernel_rfl) ?_ _; go_simp; go_wp2; go_roundw
         case rel => exact ⟨i + 1, by omega, by go_num, HZ.out⟩
         case measure => simp [intOf]; omega
        ·
         have z5 : ¬ (i : Int) + 1 < (k : Int) := by omega
         have hw1 : IntKind.i64.wrap ((i : Int) + 1) = (i : Int) + 1 := by simp [IntKind.wrap, IntKind.signed, IntKind.bits]; omega
         go_wp2; have z7 : decide ((i : Int) + 1 < (k : Int)) = false := decide_eq_false (by omega); refine wp_region_held_drew (S := fun _ => True) (by kernel_rfl) trivial (fun hS0 => ?_); refine tk 0 rfl ?_; refine tk 1 rfl ?_; refine tk 2 rfl ?_; refine tk 3 rfl ?_; refine tk 4 rfl ?_; refine tk 5 rfl ?_; refine tu 6 rfl ?_; refine tu 7 rfl ?_; refine tu 8 rfl ?_; refine tu 9 rfl ?_; refine tu 10 rfl ?_; refine tu 11 rfl ?_; refine tu 12 rfl ?_; refine tu 13 rfl ?_; refine tu 14 rfl ?_; refine tu 15 rfl ?_; refine tu 16 rfl ?_; refine tu 17 rfl ?_; refine tu 18 rfl ?_; refine tu 19 rfl ?_; refine tk 20 rfl ?_; refine wpAnyH_done (by kernel_rfl) ?_ _; go_simp; go_wp2; go_roundw
         case rel => exact ⟨i + 1, by omega, by go_num, HY.out.trans (Fr.of_below (Below.refl _ _).drew)⟩
         case measure => simp [intOf]; omega
   ·
    obtain rfl : i = k := by omega
    have hbr : Below w3.heap.size w3 wr := H6.out.2.trans (H6.out.1.outF hi hf H6.out.2.size); have H8 : Hid (Below w.heap.size w wr ∧ EventsAt wr adX i X ∧ DonesAt wr adW i C R ∧ ∀ j, Fine (R j)) := ⟨below_trans H3.out.2.2.1 H3.out.2.2.1.size hbr, H3.out.1.below hbr, H3.out.2.2.2.below hbr, HF.out⟩; clear hbr hf H6 H3 H4 HF
    go_wp2_with fail
    refine (HRun.out wr H8.out.1 H8.out.2.1).mono ?_; rintro e w6 ⟨ad6, c6, G6, s6, K6, rfl, h6a, h6d, h6b⟩; have H9 : Hid (DonesAt w6 ad6 i C R ∧ DonesAt w6 adW i C R ∧ Below w.heap.size w w6) := ⟨dones_at h6d h6a, H8.out.2.2.1.below h6b, below_trans H8.out.1 H8.out.1.size h6b⟩; clear h6a h6d h6b
    go_wp2_with fail
    refine (wDone_same ad6 adW c6 cW i C R w6 (by omega) (fun j _ => (H8.out.2.2.2 j).2.2) H9.out.1 H9.out.2.1).mono ?_; rintro e w7 ⟨rfl, hb7⟩; have HZ : Hid (Below w.heap.size w w7) := below_trans H9.out.2.2 H9.out.2.2.size hb7; clear hb7 H8 H9; go_wp2; go_ret; exact ⟨rfl, HZ.out⟩
end Go.Proofs.YtdlaekjofgbjcaaGreatDoor
/-
 The law FnTop: its walk, with what Drawn answers. Mine, by template (wip/gen.py).
-/
namespace Go.Proofs.YtdlaekjofgbjcaaGreatDoor
open Go.RowKit
theorem fnTop_walk (A : Nat → Addr) (ad : Option Addr) (c n : Nat) (V : Nat → UInt8) (w : World) (hE : Errs w A) (hT : Lib.TabIs Tryz.prog w "internal/strconv.uint64pow10" .u64 Lib.pow10Tab) (G : BytesAt w ad n V) :
  Calls Tryz.prog 3 #[.slice ad n c] w fun e w' => e = .returned (.bool true) ∧ Below w.heap.size w w' := by
 refine fnTop_walk0 A ad c n V w (drM n V) (drN n V) (drX n V) hE hT G (fun hn W hW => ?_); refine (drawn_any ad n c V W hn hW).mono ?_; rintro e w' ⟨a, k, rfl, h1, h2, h3, h4, h5, h6⟩; exact ⟨a, k, rfl, ⟨h1, h2⟩, h3, fun i hi => ⟨Nat.le_trans (h5 i hi).1 (by decide), Nat.le_trans (h5 i hi).2.1 (by decide), Nat.le_trans (h5 i hi).2.2 (by decide)⟩, h4, h6⟩
end Go.Proofs.YtdlaekjofgbjcaaGreatDoor
