/-
  The contracts of laws.markOrderS, markBook. Mine, by template (wip/gen.py).
-/
import Derived.Test.YtbgmgfnhmlpehabGreatDoorMark
namespace Go.Proofs.YtbgmgfnhmlpehabGreatDoor
open Go.RowKit

def mtext (k : Nat) : ByteArray := ⟨(109 :: decF k k []).toArray⟩

/-- An order, marked from k on. -/
def mOrd (k : Nat) (x : Ord) : Ord := ⟨mtext k, ((k + 1 : Nat) : Int), (List.range x.secs.length).map (fun i => ((k + 2 + i : Nat) : Int)), ((k + 2 + x.secs.length : Nat) : Int)⟩

theorem mOrd_len (k : Nat) (x : Ord) : (mOrd k x).secs.length = x.secs.length := by simp [mOrd]

theorem mOrd_sec (k : Nat) (x : Ord) (i : Nat) (h : i < x.secs.length) : iV (mOrd k x).secs i = .int .i64 (((k + 2 : Nat) : Int) + i) := by
  have : (mOrd k x).secs.getD i 0 = ((k + 2 + i : Nat) : Int) := by simp [mOrd, h]
  unfold iV
  rw [this]
  congr 1

/-- Where the marks of order i begin. -/
def kAt (X : Nat → Ord) (k : Nat) : Nat → Nat
  | 0 => k
  | i + 1 => kAt X k i + 3 + (X i).secs.length

theorem kAt_mono (X : Nat → Ord) (k : Nat) {i j : Nat} (h : i ≤ j) : kAt X k i ≤ kAt X k j := by
  induction j with
  | zero => obtain rfl : i = 0 := by omega
            exact Nat.le_refl _
  | succ j ih =>
    by_cases e : i = j + 1
    · subst e; exact Nat.le_refl _
    · have := ih (by omega); simp only [kAt]; omega

/-- The orders when j of them are marked. -/
def mX (X : Nat → Ord) (k j : Nat) (i : Nat) : Ord := if i < j then mOrd (kAt X k i) (X i) else X i

theorem mX_len (X : Nat → Ord) (k j i : Nat) : (mX X k j i).secs.length = (X i).secs.length := by
  unfold mX; split
  · exact mOrd_len _ _
  · rfl

theorem mark_step {w w1 w2 : World} {lo : Nat} {ad : Option Addr} {n k j : Nat} {X : Nat → Ord} {G : Nat} {gs : Nat → Nat} {sa : Nat → Option Addr} {sc : Nat → Nat} (h : OwnOrds w lo ad n (mX X k j) G gs sa sc) (hj : j < n) (hb : Below w.heap.size w w1)
    (hf : Fr (fun b => 0 < (X j).secs.length ∧ b = gs j) ((w1.setCell ⟨G, j * 4, none⟩ (.string (mtext (kAt X k j)))).setCell ⟨G, j * 4 + 1, none⟩ (.int .i64 ((kAt X k j : Int) + 1))) w2)
    (hr : 0 < (X j).secs.length → Pre w2 (gs j) 3 (X j).secs.length (fun i => .int .i64 ((kAt X k j : Int) + 2 + i))) :
    OwnOrds (w2.setCell ⟨G, j * 4 + 3, none⟩ (.int .i64 ((kAt X k j : Int) + 2 + (X j).secs.length))) lo ad n (mX X k (j + 1)) G gs sa sc := by
  have h1 := h.below hb
  have hn : 0 < n := by omega
  have ne : 0 < (X j).secs.length → gs j ≠ G := fun hp => (h.slow j hj (by rw [mX_len]; exact hp)).2
  refine ⟨h.head, fun _ => ?_, h.low, fun i hi hp => ⟨(h.sec i hi (by rw [mX_len] at hp ⊢; exact hp)).1, ?_⟩, fun i hi hp => h.slow i hi (by rw [mX_len] at hp ⊢; exact hp), fun i i' hi hi' hp hp' => h.inj i i' hi hi' (by rw [mX_len] at hp ⊢; exact hp) (by rw [mX_len] at hp' ⊢; exact hp')⟩
  · have r1 := ((h1.row hn).set (j * 4) (.string (mtext (kAt X k j)))).set (j * 4 + 1) (.int .i64 ((kAt X k j : Int) + 1))
    have r2 := (hf.row r1 (fun e => ne e.1 e.2.symm)).set (j * 4 + 3) (.int .i64 ((kAt X k j : Int) + 2 + (X j).secs.length))
    refine r2.congr (fun q hq => ?_)
    have hm : q % 4 < 4 := Nat.mod_lt _ (by omega)
    unfold ordCells
    by_cases e : q / 4 = j
    · have eX : mX X k (j + 1) j = mOrd (kAt X k j) (X j) := by unfold mX; rw [if_pos (by omega)]
      have eX0 : mX X k j j = X j := by unfold mX; rw [if_neg (by omega)]
      rw [e, eX, eX0]
      rcases (show q % 4 = 0 ∨ q % 4 = 1 ∨ q % 4 = 2 ∨ q % 4 = 3 by omega) with u | u | u | u
      · rw [if_neg (by omega), if_neg (by omega), if_pos (by omega), u]; rfl
      · rw [if_neg (by omega), if_pos (by omega), u]; simp [ordCell, mOrd]
      · rw [if_neg (by omega), if_neg (by omega), if_neg (by omega), u]; simp [ordCell, mOrd_len]
      · rw [if_pos (by omega), u]; simp [ordCell, mOrd]
    · rw [if_neg (by omega), if_neg (by omega), if_neg (by omega)]
      have : mX X k (j + 1) (q / 4) = mX X k j (q / 4) := by
        unfold mX
        by_cases hl : q / 4 < j
        · rw [if_pos hl, if_pos (by omega)]
        · rw [if_neg hl, if_neg (by omega)]
      rw [this]
  · rw [mX_len] at hp ⊢
    have nG := (h.slow i hi (by rw [mX_len]; exact hp)).2
    by_cases e : i = j
    · subst e
      have eX : mX X k (i + 1) i = mOrd (kAt X k i) (X i) := by unfold mX; rw [if_pos (by omega)]
      rw [eX]
      exact ((hr hp).congr (fun q hq => by rw [mOrd_sec _ _ _ hq]; simp)).setOther nG _
    · have eX : mX X k (j + 1) i = mX X k j i := by
        unfold mX
        by_cases hl : i < j
        · rw [if_pos hl, if_pos (by omega)]
        · rw [if_neg hl, if_neg (by omega)]
      rw [eX]
      have r0 := (h1.sec i hi (by rw [mX_len]; exact hp)).2
      rw [mX_len] at r0
      refine (hf.row ((r0.setOther nG _).setOther nG _) (fun u => ?_)).setOther nG _
      exact e (h.inj i j hi hj (by rw [mX_len]; exact hp) (by rw [mX_len]; exact u.1) u.2)

set_option maxHeartbeats 1000000 in
theorem markOrderS_any (ad : Option Addr) (c n : Nat) (X : Nat → Ord) (k lo G : Nat) (gs : Nat → Nat) (sa : Nat → Option Addr) (sc : Nat → Nat) (w : World) (h0 : 0 < k) (hk : kAt X k n ≤ 2305843009213693952) (hn : n ≤ 1048576) (h : OwnOrds w lo ad n X G gs sa sc) :
    Calls Tryz.prog 46 #[.slice ad n c, .int .i64 k] w fun e w' => e = .returned (.int .i64 (kAt X k n)) ∧ OwnOrds w' lo ad n (mX X k n) G gs sa sc ∧ Fr (ordBlocks n X G gs) w w' := by
  have hd := h.head
  go_enter Tryz.func46, Tryz.ntmps46
  go_wp2
  go_loopw [1, 5] (fun q i wr => ∃ j : Nat, j ≤ n ∧ i = .int .i64 j ∧ q = .int .i64 (kAt X k j) ∧ OwnOrds wr lo ad n (mX X k j) G gs sa sc ∧ Fr (ordBlocks n X G gs) w wr) (fun _ i _ => n - (intOf i).toNat)
  case atStart => exact ⟨0, Nat.zero_le _, rfl, rfl, by have e : mX X k 0 = X := by (funext i; unfold mX; rw [if_neg (by omega)])
                                                        rw [e]; exact h, Fr.refl _ _⟩
  case round =>
    obtain ⟨j, hj, rfl, rfl, hown, hfr⟩ := hrel
    by_cases hlt : j < n
    · obtain rfl := hd (by omega)
      obtain ⟨kj, hkj⟩ : ∃ kj, kj = kAt X k j := ⟨_, rfl⟩
      have hkn : kj + 3 + (X j).secs.length ≤ 2305843009213693952 := by
        have := kAt_mono X k (i := j + 1) (j := n) (by omega)
        simp only [kAt] at this
        omega
      have hk0 : 0 < kj := by
        have := kAt_mono X k (i := 0) (j := j) (by omega)
        simp only [kAt] at this
        omega
      rw [← hkj]
      have HK : Hid (kj = kAt X k j) := hkj
      clear hkj hk hd h
      go_wp2_with fail
      refine (markText_any kj _ hk0 (by omega)).mono ?_
      rintro e w1 ⟨rfl, hb⟩
      have ho := (hown.below hb).ordAt hlt
      have hrow := (hown.below hb).row (by omega)
      have eX : mX X k j j = X j := by unfold mX; rw [if_neg (by omega)]
      rw [eX] at ho
      obtain ⟨x0, x1, x2, x3, _⟩ := ho
      have f0 := hrow.frozen (j * 4)
      have f1 := hrow.frozen (j * 4 + 1)
      have f3 := hrow.frozen (j * 4 + 3)
      have HO : Hid (OwnOrds wr lo (some ⟨G, 0, none⟩) n (mX X k j) G gs sa sc ∧ Below wr.heap.size wr w1 ∧ Fr (ordBlocks n X G gs) w wr) := ⟨hown, hb, hfr⟩
      clear hown hb hfr hrow eX
      go_wp2_with fail
      have hsec : 0 < (X j).secs.length → sa j = some ⟨gs j, 0, none⟩ ∧ gs j ≠ G ∧ Pre w1 (gs j) 3 (X j).secs.length (iV (X j).secs) := fun hp => by
        obtain ⟨o1, o2, _⟩ := HO.out
        have eX : mX X k j j = X j := by unfold mX; rw [if_neg (by omega)]
        have u := (o1.below o2).sec j hlt (by rw [eX]; exact hp)
        rw [eX] at u
        exact ⟨u.1, (o1.slow j hlt (by rw [eX]; exact hp)).2, u.2⟩
      refine (markIntS_any (sa j) (sc j) (X j).secs.length (gs j) (iV (X j).secs) ((kj : Int) + 1 + 1) _ (by omega) (by omega) (fun hp => (hsec hp).1) (fun hp => ((hsec hp).2.2.setOther (hsec hp).2.1 _).setOther (hsec hp).2.1 _)).mono ?_
      rintro e w2 ⟨rfl, hrw2, hfr2⟩
      have hGG : w1.heap[G]? = w1.heap[G]? := rfl
      have hW : w2.heap[G]? = ((w1.setCell ⟨G, j * 4, none⟩ (.string ⟨(109 :: decF kj kj []).toArray⟩)).setCell ⟨G, j * 4 + 1, none⟩ (.int .i64 ((kj : Int) + 1))).heap[G]? := hfr2.block G (by simpa using World.block_lt_of_cell? _ _ x0) (fun u => (hsec u.1).2.1 u.2.symm)
      have y3 : w2.cell? ⟨G, j * 4 + 3, none⟩ = some (.int .i64 (X j).state) := by
        rw [World.cell?_of_block (w := (w1.setCell ⟨G, j * 4, none⟩ (.string ⟨(109 :: decF kj kj []).toArray⟩)).setCell ⟨G, j * 4 + 1, none⟩ (.int .i64 ((kj : Int) + 1))) hW]
        rw [World.cell?_setCell_other _ _ _ _ (fun e => by have := congrArg Addr.off e; simp at this), World.cell?_setCell_other _ _ _ _ (fun e => by have := congrArg Addr.off e; simp at this)]
        exact x3
      have y4 : w2.frozen? ⟨G, j * 4 + 3, none⟩ = false := by
        rw [World.frozen?_of_block (w := (w1.setCell ⟨G, j * 4, none⟩ (.string ⟨(109 :: decF kj kj []).toArray⟩)).setCell ⟨G, j * 4 + 1, none⟩ (.int .i64 ((kj : Int) + 1))) hW]
        simpa using f3
      have HF : Hid (_ ∧ _) := ⟨hrw2, hfr2⟩
      clear hrw2 hfr2 hGG hW x0 x1 x2 x3 f0 f1 f3 hsec
      go_wp2
      go_roundw
      case rel =>
        obtain ⟨o1, o2, o3⟩ := HO.out
        obtain ⟨g1, g2⟩ := HF.out
        have hkj := HK.out
        subst hkj
        have eX : ∀ i, ((kAt X k j : Int) + 1 + 1 + (i : Int)) = (kAt X k j : Int) + 2 + i := fun i => by omega
        have st := mark_step o1 hlt o2 g2 (fun hp => (g1 hp).congr (fun q _ => by rw [eX]))
        refine ⟨j + 1, by omega, by go_num, ?_, ?_, ?_⟩
        · show Value.int _ _ = Value.int _ _
          rw [show kAt X k (j + 1) = kAt X k j + 3 + (X j).secs.length from rfl]
          congr 1; omega
        · rw [eX]; exact st
        · have f1 : Fr (ordBlocks n X G gs) wr ((w1.setCell ⟨G, j * 4, none⟩ (.string (mtext (kAt X k j)))).setCell ⟨G, j * 4 + 1, none⟩ (.int .i64 ((kAt X k j : Int) + 1))) := ((Fr.of_below o2).setCell (Or.inl ⟨by omega, rfl⟩) _).setCell (Or.inl ⟨by omega, rfl⟩) _
          exact ((o3.trans f1).trans (g2.mono (fun i hi => Or.inr ⟨j, hlt, hi.1, hi.2⟩))).setCell (Or.inl ⟨by omega, rfl⟩) _
      case measure => simp [intOf]; omega
    · obtain rfl : j = n := by omega
      have HO : Hid (OwnOrds wr lo ad j (mX X k j) G gs sa sc) := hown
      clear hown hd h hk
      go_wp2
      go_ret
      exact ⟨rfl, HO.out, hfr⟩

/-- A book, marked from k on. -/
def bK (B : Bk) (k : Nat) : Nat := kAt (bX B) k B.orders.length
def bEnd (B : Bk) (k : Nat) : Nat := bK B k + B.locked.length + B.occ.length
def mBk (B : Bk) (k : Nat) : Bk := ⟨B.n, (List.range B.orders.length).map (mX (bX B) k B.orders.length), (List.range B.locked.length).map (fun (i : Nat) => mb ((bK B k : Int) + (i : Int))), (List.range B.occ.length).map (fun (i : Nat) => mb (((bK B k + B.locked.length : Nat) : Int) + (i : Int)))⟩

set_option maxHeartbeats 1000000 in
theorem markBook_any (v : Value) (B : Bk) (K : Blk) (lo k : Nat) (w : World) (h0 : 0 < k) (hk : bEnd B k ≤ 2305843009213693952) (hn : B.orders.length ≤ 1048576) (h : OwnBook w lo v B K) :
    Calls Tryz.prog 15 #[v, .int .i64 k] w fun e w' => e = .returned (.int .i64 (bEnd B k)) ∧ OwnBook w' lo v (mBk B k) K ∧ Fr (bookBlocks B K) w w' := by
  obtain ⟨⟨ao, co, al, cl, ac, cc, rfl, p1, p2, p3⟩, q1, q2, q3, q4, q5⟩ := h
  obtain ⟨k1, hk1⟩ : ∃ k1, k1 = bK B k := ⟨_, rfl⟩
  have hkb : k1 + B.locked.length + B.occ.length ≤ 2305843009213693952 := by rw [hk1]; exact hk
  have HK : Hid (k1 = bK B k) := hk1
  have hkk : kAt (bX B) k B.orders.length ≤ 2305843009213693952 := by
    have e : k1 = kAt (bX B) k B.orders.length := hk1
    rw [← e]; omega
  clear hk1 hk
  go_enter Tryz.func15, Tryz.ntmps15
  go_wp2_with fail
  have B1 := below1 w (.cells #[.int .i64 B.n, .slice ao B.orders.length co, .slice al B.locked.length cl, .slice ac B.occ.length cc] 33)
  refine (markOrderS_any ao co B.orders.length (bX B) k lo K.G K.gs K.sa K.sc _ h0 hkk hn (p1.below B1)).mono ?_
  rintro e w1 ⟨rfl, o1, f1⟩
  rw [show kAt (bX B) k B.orders.length = k1 from HK.out.symm]
  have bx : ∀ o, w1.cell? ⟨w.heap.size, o, none⟩ = (w.alloc (.cells #[.int .i64 B.n, .slice ao B.orders.length co, .slice al B.locked.length cl, .slice ac B.occ.length cc] 33)).cell? ⟨w.heap.size, o, none⟩ := fun o => World.cell?_of_block (f1.block _ (by simp) (fun hb => by
    rcases hb with ⟨hp, e⟩ | ⟨i, hi, hp, e⟩
    · have e' : w.heap.size = K.G := e; have := (p1.row hp).lt; omega
    · have e' : w.heap.size = K.gs i := e; have := (p1.sec i hi hp).2.lt; omega))
  have z1 : w.heap.size < w1.heap.size := by have := f1.size; simp at this; omega
  have r2 : OwnBools w1 lo al B.locked.length (fun i => B.locked.getD i false) K.L := (p2.below B1).fr f1 (fun hp hb => by
    rcases hb with ⟨hp', e⟩ | ⟨i, hi, hp', e⟩
    · exact q1 hp' hp e
    · exact q4 hp i hi hp' e.symm)
  have r3 : OwnBools w1 lo ac B.occ.length (fun i => B.occ.getD i false) K.C := (p3.below B1).fr f1 (fun hp hb => by
    rcases hb with ⟨hp', e⟩ | ⟨i, hi, hp', e⟩
    · exact q2 hp' hp e
    · exact q5 hp i hi hp' e.symm)
  have lts : (0 < B.locked.length → K.L ≠ w.heap.size) ∧ (0 < B.occ.length → K.C ≠ w.heap.size) := ⟨fun hp => by have := (p2.row hp).lt; omega, fun hp => by have := (p3.row hp).lt; omega⟩
  have H1 : Hid (OwnOrds w1 lo ao B.orders.length (mX (bX B) k B.orders.length) K.G K.gs K.sa K.sc ∧ Fr (ordBlocks B.orders.length (bX B) K.G K.gs) w w1) := ⟨o1, (Fr.of_below B1).trans f1⟩
  clear o1 f1 p1 p2 p3 B1
  go_wp2_with fail
  refine (markBoolS_any al cl B.locked.length K.L (fun i => .bool (B.locked.getD i false)) k1 _ (by omega) (by omega) r2.head r2.row).mono ?_
  rintro e w2 ⟨rfl, u2, f2⟩
  have bx2 : ∀ o, w2.cell? ⟨w.heap.size, o, none⟩ = w1.cell? ⟨w.heap.size, o, none⟩ := fun o => World.cell?_of_block (f2.block _ z1 (fun hb => lts.1 hb.1 hb.2.symm))
  have r3' := r3.fr f2 (fun hp hb => q3 hb.1 hp hb.2.symm)
  have H2 : Hid (_ ∧ _) := ⟨u2, f2⟩
  clear u2 f2 r3
  go_wp2_with fail
  refine (markBoolS_any ac cc B.occ.length K.C (fun i => .bool (B.occ.getD i false)) (k1 + B.locked.length) _ (by omega) (by omega) r3'.head r3'.row).mono ?_
  rintro e w3 ⟨rfl, u3, f3⟩
  have H3 : Hid (_ ∧ _) := ⟨u3, f3⟩
  clear u3 f3
  go_wp2
  go_ret
  obtain ⟨o1, f1⟩ := H1.out
  obtain ⟨u2, f2⟩ := H2.out
  obtain ⟨u3, f3⟩ := H3.out
  have hkk1 := HK.out
  have o2 : OwnOrds w2 lo ao B.orders.length (mX (bX B) k B.orders.length) K.G K.gs K.sa K.sc := o1.fr f2 (fun b hb hs => by
    rcases hb with ⟨hp, e⟩ | ⟨i, hi, hp, e⟩
    · exact q1 hp hs.1 (by rw [← e]; exact hs.2.symm)
    · rw [mX_len] at hp; exact q4 hs.1 i hi hp (by rw [← e]; exact hs.2))
  have o3 : OwnOrds w3 lo ao B.orders.length (mX (bX B) k B.orders.length) K.G K.gs K.sa K.sc := o2.fr f3 (fun b hb hs => by
    rcases hb with ⟨hp, e⟩ | ⟨i, hi, hp, e⟩
    · exact q2 hp hs.1 (by rw [← e]; exact hs.2.symm)
    · rw [mX_len] at hp; exact q5 hs.1 i hi hp (by rw [← e]; exact hs.2))
  have len1 : (mBk B k).orders.length = B.orders.length := by simp [mBk]
  have len2 : (mBk B k).locked.length = B.locked.length := by simp [mBk]
  have len3 : (mBk B k).occ.length = B.occ.length := by simp [mBk]
  have secl : ∀ i, i < B.orders.length → ((mBk B k).orders.getD i Ord.zero).secs.length = (bX B i).secs.length := fun i hi => by
    have : (mBk B k).orders.getD i Ord.zero = mX (bX B) k B.orders.length i := getD_range_map _ _ _ _ hi
    rw [this, mX_len]
  refine ⟨?_, ⟨⟨ao, co, al, cl, ac, cc, ?_, ?_, ?_, ?_⟩, ?_, ?_, ?_, ?_, ?_⟩, ?_⟩
  · show Ending.returned (Value.int _ _) = Ending.returned (Value.int _ _)
    rw [show bEnd B k = k1 + B.locked.length + B.occ.length from by rw [hkk1]; rfl]
    congr 2
  · rw [len1, len2, len3]; rfl
  · rw [len1]; exact o3.congr (fun i hi => (getD_range_map _ _ _ _ hi).symm)
  · rw [len2]
    refine ⟨r2.head, fun hp => (f3.row (u2 hp) (fun hs => q3 hp hs.1 hs.2)).congr (fun i hi => ?_), r2.low⟩
    rw [show (mBk B k).locked.getD i false = mb ((bK B k : Int) + i) from getD_range_map _ _ _ _ hi, ← hkk1]
  · rw [len3]
    refine ⟨r3'.head, fun hp => (u3 hp).congr (fun i hi => ?_), r3'.low⟩
    rw [show (mBk B k).occ.getD i false = mb (((bK B k + B.locked.length : Nat) : Int) + i) from getD_range_map _ _ _ _ hi, ← hkk1]
    congr 2
  · rw [len1, len2]; exact q1
  · rw [len1, len3]; exact q2
  · rw [len2, len3]; exact q3
  · rw [len1, len2]; exact fun hp i hi hs => q4 hp i hi (by rw [secl i hi] at hs; exact hs)
  · rw [len1, len3]; exact fun hp i hi hs => q5 hp i hi (by rw [secl i hi] at hs; exact hs)
  · exact ((f1.mono (fun b hb => Or.inl hb)).trans (f2.mono (fun b hb => Or.inr (Or.inl hb)))).trans (f3.mono (fun b hb => Or.inr (Or.inr hb)))

end Go.Proofs.YtbgmgfnhmlpehabGreatDoor
