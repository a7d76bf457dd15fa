/-
 What BookOk says, as propositions; the contract of spec.BookOk. Mine, by template (wip/gen.py).
-/
import Derived.Test.YtdlaekjofgbjcaaGreatDoorBaseZ
import Derived.Test.YtdlaekjofgbjcaaGreatDoorOkZ
import Derived.Deep.RegionHeld3
import Derived.Deep.RegionWith
import Derived.Deep.DrawnRows
namespace Go.Proofs.YtdlaekjofgbjcaaGreatDoor
open Go.RowKit
def AllOrd (B : Bk) : Prop := ∀ i, i < B.orders.length → OrdOk (bX B i) B.n
def Clash (x y : Ord) : Prop := OpenP x.state ∧ OpenP y.state ∧ Meet x.secs.length y.secs.length (sV x) (sV y)
def NoClash (B : Bk) : Prop := ∀ i, i < B.orders.length → ∀ j, j < i → ¬ Clash (bX B i) (bX B j)
def LockedAt (B : Bk) (x : Ord) : Prop := OpenP x.state ∧ ∃ q, q < x.secs.length ∧ B.locked.getD (sV x q).toNat false = true
def NoLock (B : Bk) : Prop := ∀ i, i < B.orders.length → ¬ LockedAt B (bX B i)
def BCode (B : Bk) (c : Int) : Prop :=
 (¬ SizesOk B ∧ c = 1) ∨ (SizesOk B ∧ ¬ AllOrd B ∧ c = 2) ∨ (SizesOk B ∧ AllOrd B ∧ ¬ NoClash B ∧ c = 3) ∨ (SizesOk B ∧ AllOrd B ∧ NoClash B ∧ ¬ NoLock B ∧ c = 4) ∨ (SizesOk B ∧ AllOrd B ∧ NoClash B ∧ NoLock B ∧ c = 0)
theorem BCode.det {B : Bk} {c d : Int} (h : BCode B c) (k : BCode B d) : c = d := by
 unfold BCode at h k
 rcases h with h | h | h | h | h <;> rcases k with k | k | k | k | k <;> first | (exact h.2.trans k.2.symm) | (exact absurd k.1 h.1) | (exact absurd h.1 k.1) | (exact h.2.2.trans k.2.2.symm) | (exact absurd k.2.1 h.2.1) | (exact absurd h.2.1 k.2.1) | (exact h.2.2.2.trans k.2.2.2.symm) | (exact absurd k.2.2.1 h.2.2.1) | (exact absurd h.2.2.1 k.2.2.1) | (exact h.2.2.2.2.trans k.2.2.2.2.symm) | (exact absurd k.2.2.2.1 h.2.2.2.1) | (exact absurd h.2.2.2.1 k.2.2.2.1)
def RetC (e : Ending) (B : Bk) : Prop := ∃ c, e = .returned (.int .i64 c) ∧ BCode B c
theorem RetC.one {B : Bk} (h : ¬ SizesOk B) : RetC (.returned (.int .i64 1)) B := ⟨1, rfl, Or.inl ⟨h, rfl⟩⟩
theorem RetC.two {B : Bk} (h : SizesOk B) (h2 : ¬ AllOrd B) : RetC (.returned (.int .i64 2)) B := ⟨2, rfl, Or.inr (Or.inl ⟨h, h2, rfl⟩)⟩
theorem RetC.three {B : Bk} (h : SizesOk B) (h2 : AllOrd B) (h3 : ¬ NoClash B) : RetC (.returned (.int .i64 3)) B := ⟨3, rfl, Or.inr (Or.inr (Or.inl ⟨h, h2, h3, rfl⟩))⟩
theorem RetC.four {B : Bk} (h : SizesOk B) (h2 : AllOrd B) (h3 : NoClash B) (h4 : ¬ NoLock B) : RetC (.returned (.int .i64 4)) B := ⟨4, rfl, Or.inr (Or.inr (Or.inr (Or.inl ⟨h, h2, h3, h4, rfl⟩)))⟩
theorem RetC.zero {B : Bk} (h : SizesOk B) (h2 : AllOrd B) (h3 : NoClash B) (h4 : NoLock B) : RetC (.returned (.int .i64 0)) B := ⟨0, rfl, Or.inr (Or.inr (Or.inr (Or.inr ⟨h, h2, h3, h4, rfl⟩)))⟩
theorem wpAny_end {P : Program} {md : Region.Mode} {ops : Array Oper} {Q : Exit → Act → World → Prop} {fuel : Nat} {listed : Array Bool} {a : Act} {w : World} (hr : Region.ready md ops listed = []) (h : Q .normal a w) : wpAny P md ops Q fuel listed a w := wpAny_done hr h fuel
def Dec (t : Int) (r : Bool) : Prop := r = true ↔ OpenP t
theorem l1open_dec (a b c : Value) (t : Int) (r : Bool) (w : World) (h : Dec t r) :
  Calls Tryz.prog 85 #[.agg #[a, b, c, .int .i64 t]] w fun e w' => e = .returned (.bool r) ∧ Below w.heap.size w w' := by
 refine (l1open_any a b c t w).mono ?_; rintro e w' ⟨hr, hb⟩; refine ⟨?_, hb⟩; rcases hr.cases with ⟨rfl, hp⟩ | ⟨rfl, hp⟩
 · rw [h.2 hp]
 ·
  cases r with
  | true => exact absurd (h.1 rfl) hp
  | false => rfl
theorem dec_ex (t : Int) : ∃ r, Dec t r := by
 by_cases h : OpenP t
 · exact ⟨true, ⟨fun _ => h, fun _ => rfl⟩⟩
 · exact ⟨false, ⟨fun e => (by cases e), fun q => absurd q h⟩⟩
theorem l1meet_dec (a1 a2 : Option Addr) (c1 c2 n m : Nat) (V U : Nat → Int) (r : Bool) (w : World) (hn : n ≤ 4294967296) (hm : m ≤ 4294967296) (G1 : Cells w a1 n (fun i => .int .i64 (V i))) (G2 : Cells w a2 m (fun i => .int .i64 (U i))) (h : r = true ↔ Meet n m V U) :
  Calls Tryz.prog 86 #[.slice a1 n c1, .slice a2 m c2] w fun e w' => e = .returned (.bool r) ∧ Below w.heap.size w w' := by
 refine (l1meet_any a1 a2 c1 c2 n m V U w hn hm G1 G2).mono ?_; rintro e w' ⟨hr, rfl⟩; refine ⟨?_, Below.refl _ _⟩; rcases hr.cases with ⟨rfl, hp⟩ | ⟨rfl, hp⟩
 · rw [h.2 hp]
 ·
  cases r with
  | true => exact absurd (h.1 rfl) hp
  | false => rfl
set_option maxHeartbeats 4000000 in
theorem specBookOk_any (v : Value) (B : Bk) (w : World) (ho : B.orders.length ≤ 1048576) (hs : ∀ i, i < B.orders.length → (bX B i).secs.length ≤ 1048576 ∧ (bX B i).holder.size ≤ 1048576) (hw : -9223372036854775808 ≤ B.n ∧ B.n ≤ 9223372036854775807) (G : BookAt w v B) :
  Calls Tryz.prog 84 #[v] w fun e w' => RetC e B ∧ Below w.heap.size w w' := by
 obtain ⟨ao, co, al, cl, ac, cc, rfl, ⟨b, o, hd, g⟩, p2, p3⟩ := G; obtain ⟨O, hO⟩ : ∃ O, O = B.orders.length := ⟨_, rfl⟩; obtain ⟨L, hL⟩ : ∃ L, L = B.locked.length := ⟨_, rfl⟩; obtain ⟨C, hC⟩ : ∃ C, C = B.occ.length := ⟨_, rfl⟩; have HO : Hid (O = B.orders.length) := hO; have HL : Hid (L = B.locked.length) := hL; have HC : Hid (C = B.occ.length) := hC; rw [← hO, ← hL, ← hC]; rw [← hO] at ho hs hd g; rw [← hL] at p2; have g' : ∀ i, i < O → ∃ sa sc, OrdAt w b (o + i * 4) (bX B i) sa sc := g; clear hO hL hC p3 g; have B1 := below1 w (.cells #[.int .i64 B.n, .slice ao O co, .slice al L cl, .slice ac C cc] 37)
 go_enter Tryz.func84, Tryz.ntmps84
 go_wp2_with fail
 refine (l1in_any B.n 1 60 _).mono ?_; rintro e w' ⟨hr, rfl⟩; rcases hr.cases with ⟨rfl, hp⟩ | ⟨rfl, hp⟩
 case inr =>
  have HP : Hid (¬ In B.n 1 60) := hp; clear hp hr g' p2 hd hs; go_wp2; go_ret; exact ⟨RetC.one (fun q => HP.out q.1), B1⟩
 have HP : Hid (In B.n 1 60) := hp; clear hp hr
 by_cases h1 : (L : Int) = B.n
 case neg =>
  have t1 : ((L : Int) != B.n) = true := by simpa using h1
  have H1 : Hid (¬ (L : Int) = B.n) := h1; clear h1 g' p2 hd hs; go_wp2; go_ret; exact ⟨RetC.one (fun q => H1.out (by rw [HL.out]; exact q.2.1)), B1⟩
 have t1 : ((L : Int) != B.n) = false := by simpa using h1
 have H1 : Hid ((L : Int) = B.n) := h1; clear h1
 by_cases h2 : (C : Int) = B.n
 case neg =>
  have t2 : ((C : Int) != B.n) = true := by simpa using h2
  have H2 : Hid (¬ (C : Int) = B.n) := h2; clear h2 g' p2 hd hs; go_wp2; go_ret; exact ⟨RetC.one (fun q => H2.out (by rw [HC.out]; exact q.2.2.1)), B1⟩
 have t2 : ((C : Int) != B.n) = false := by simpa using h2
 have H2 : Hid ((C : Int) = B.n) := h2; clear h2
 by_cases h3 : O ≤ 200
 case neg =>
  have t3 : decide (200 < (O : Int)) = true := by simp; omega
  clear g' p2 hd hs; go_wp2; go_ret; exact ⟨RetC.one (fun q => by have := q.2.2.2; have := HO.out; omega), B1⟩
 have t3 : decide (200 < (O : Int)) = false := by simp; omega
 have HS : Hid (SizesOk B) := ⟨HP.out, by have := H1.out; rw [HL.out] at this; exact this, by have := H2.out; rw [HC.out] at this; exact this, by rw [← HO.out]; exact h3⟩; go_wp2; clear t1 t2 t3
 -- the first loop: each order
 go_loopw [41] (fun i wr => ∃ k : Nat, k ≤ O ∧ i = .int .i64 k ∧ (∀ j, j < k → OrdOk (bX B j) B.n) ∧ Below (w.heap.size + 1) (w.alloc (.cells #[.int .i64 B.n, .slice ao O co, .slice al L cl, .slice ac C cc] 37)) wr) (fun i _ => O - (intOf i).toNat)
 case atStart => exact ⟨0, Nat.zero_le _, rfl, fun j hj => absurd hj (by omega), Below.refl _ _⟩
 case round =>
  obtain ⟨k, hk, rfl, hall, hb⟩ := hrel; have HA : Hid (∀ j, j < k → OrdOk (bX B j) B.n) := hall; have zb : w.heap.size + 1 ≤ wr.heap.size := by have := hb.size; simpa using this
  have hbw : Below w.heap.size w wr := B1.trans (hb.mono (by omega)); clear hall
  by_cases hlt : k < O
  ·
   obtain rfl := hd (by omega); obtain ⟨sa, sc, q⟩ := g' k hlt; have hsk := hs k hlt; have q' := q.below hbw; obtain ⟨x0, x1, x2, x3, x4⟩ := q'; have c0 : wr.cell? ⟨w.heap.size, 0, none⟩ = some (.int .i64 B.n) := (hb.cell (p := ⟨w.heap.size, 0, none⟩) (by simp)).trans (by simp [go_sem]); have z0 : w.heap.size < wr.heap.size := by omega
   have hne : w.heap.size ≠ wr.heap.size := by omega
   clear g' p2 hd hs q; have B2 : Below (w.heap.size + 1) (w.alloc (.cells #[.int .i64 B.n, .slice (some ⟨b, o, none⟩) O co, .slice al L cl, .slice ac C cc] 37)) (wr.alloc (.cells #[.string (bX B k).holder, .int .i64 (bX B k).kind, .slice sa (bX B k).secs.length sc, .int .i64 (bX B k).state] 41)) := hb.alloc zb _; have B3 : Below w.heap.size w (wr.alloc (.cells #[.string (bX B k).holder, .int .i64 (bX B k).kind, .slice sa (bX B k).secs.length sc, .int .i64 (bX B k).state] 41)) := hbw.alloc (by omega) _; have x5 : Cells (wr.alloc (.cells #[.string (bX B k).holder, .int .i64 (bX B k).kind, .slice sa (bX B k).secs.length sc, .int .i64 (bX B k).state] 41)) sa (bX B k).secs.length (fun i => .int .i64 (sV (bX B k) i)) := x4.below (below1 _ _); clear x4 hb hbw; have Hbad : Hid (¬ OrdOk (bX B k) B.n → ¬ AllOrd B) := fun h q => h (q k (by rw [← HO.out]; exact hlt))
   go_wp2_with fail
   refine (l1name_any (bX B k).holder _ (by omega)).mono ?_; rintro e w' ⟨hr, rfl⟩; rcases hr.cases with ⟨rfl, hp⟩ | ⟨rfl, hp⟩
   case inr =>
    have HP1 : Hid (¬ NameOk (bX B k).holder) := hp; clear hp hr; go_wp2; go_ret; exact ⟨RetC.two HS.out (Hbad.out (fun q => HP1.out q.1)), B3⟩
   have HP1 : Hid (NameOk (bX B k).holder) := hp; clear hp hr
   go_wp2_with fail
   refine (l1in_any (bX B k).kind 1 2 _).mono ?_; rintro e w' ⟨hr, rfl⟩; rcases hr.cases with ⟨rfl, hp⟩ | ⟨rfl, hp⟩
   case inr =>
    have HP2 : Hid (¬ In (bX B k).kind 1 2) := hp; clear hp hr; go_wp2; go_ret; exact ⟨RetC.two HS.out (Hbad.out (fun q => HP2.out q.2.1)), B3⟩
   have HP2 : Hid (In (bX B k).kind 1 2) := hp; clear hp hr
   go_wp2_with fail
   refine (l1list_any sa sc (bX B k).secs.length (sV (bX B k)) B.n _ (by omega) (by have := HP.out.1; omega) (by omega) x5).mono ?_; rintro e w' ⟨hr, rfl⟩; rcases hr.cases with ⟨rfl, hp⟩ | ⟨rfl, hp⟩
   case inr =>
    have HP3 : Hid (¬ ListOk (bX B k).secs.length (sV (bX B k)) B.n) := hp; clear hp hr; go_wp2; go_ret; exact ⟨RetC.two HS.out (Hbad.out (fun q => HP3.out q.2.2.1)), B3⟩
   have HP3 : Hid (ListOk (bX B k).secs.length (sV (bX B k)) B.n) := hp; clear hp hr
   go_wp2_with fail
   refine (l1in_any (bX B k).state 1 5 _).mono ?_; rintro e w' ⟨hr, rfl⟩; rcases hr.cases with ⟨rfl, hp⟩ | ⟨rfl, hp⟩
   case inr =>
    have HP4 : Hid (¬ In (bX B k).state 1 5) := hp; clear hp hr; go_wp2; go_ret; exact ⟨RetC.two HS.out (Hbad.out (fun q => HP4.out q.2.2.2)), B3⟩
   have HP4 : Hid (In (bX B k).state 1 5) := hp; clear hp hr; go_wp2; go_roundw
   case rel =>
    refine ⟨k + 1, by omega, by go_num, fun j hj => ?_, B2⟩
    by_cases e : j = k
    · subst e; exact ⟨HP1.out, HP2.out, HP3.out, HP4.out⟩
    · exact HA.out j (by omega)
   case measure => simp [intOf]; omega
  ·
   obtain rfl : k = O := by omega
   have HAll : Hid (AllOrd B) := fun i hi => HA.out i (by rw [HO.out]; exact hi); have c1 : wr.cell? ⟨w.heap.size, 1, none⟩ = some (.slice ao k co) := (hb.cell (p := ⟨w.heap.size, 1, none⟩) (by simp)).trans (by simp [go_sem]); have z0 : w.heap.size < wr.heap.size := by omega
   go_wp2; clear c1 z0; obtain ⟨wo, rfl⟩ : ∃ wo : World, wo = wr := ⟨_, rfl⟩
   -- the second loop: each pair
   go_loopw [73] (fun i wr => ∃ q : Nat, q ≤ k ∧ i = .int .i64 q ∧ (∀ i, i < q → ∀ j, j < i → ¬ Clash (bX B i) (bX B j)) ∧ Below (w.heap.size + 1) (w.alloc (.cells #[.int .i64 B.n, .slice ao k co, .slice al L cl, .slice ac C cc] 37)) wr) (fun i _ => k - (intOf i).toNat)
   case atStart => exact ⟨0, Nat.zero_le _, rfl, fun i hi => absurd hi (by omega), hb⟩
   case round =>
    clear hb hbw zb; obtain ⟨q, hq, rfl, hall, hb⟩ := hrel; have zb : w.heap.size + 1 ≤ wr.heap.size := by have := hb.size; simpa using this
    have hbw : Below w.heap.size w wr := B1.trans (hb.mono (by omega)); have HC2 : Hid (∀ i, i < q → ∀ j, j < i → ¬ Clash (bX B i) (bX B j)) := hall; clear hall
    by_cases hlt : q < k
    ·
     obtain rfl := hd (by omega); obtain ⟨sa, sc, q'⟩ := g' q hlt; obtain ⟨x0, x1, x2, x3, x4⟩ := q'.below hbw; clear q'; go_wp2; have hbo : Below (w.heap.size + 1) (w.alloc (.cells #[.int .i64 B.n, .slice (some ⟨b, o, none⟩) k co, .slice al L cl, .slice ac C cc] 37)) (wr.alloc (.cells #[.string (bX B q).holder, .int .i64 (bX B q).kind, .slice sa (bX B q).secs.length sc, .int .i64 (bX B q).state] 41)) := hb.alloc zb _; have x5 : Cells (wr.alloc (.cells #[.string (bX B q).holder, .int .i64 (bX B q).kind, .slice sa (bX B q).secs.length sc, .int .i64 (bX B q).state] 41)) sa (bX B q).secs.length (fun i => .int .i64 (sV (bX B q) i)) := x4.below (below1 _ _); clear x0 x1 x2 x3 x4 hb hbw; obtain ⟨wp, hwp⟩ : ∃ wp : World, wp = wr := ⟨_, rfl⟩; rw [← hwp] at hbo x5 zb ⊢; clear hwp
     go_loopw [7] (fun i wx => ∃ l : Nat, l ≤ q ∧ i = .int .i64 l ∧ (∀ j, j < l → ¬ Clash (bX B q) (bX B j)) ∧ Below (wp.heap.size + 1) (wp.alloc (.cells #[.string (bX B q).holder, .int .i64 (bX B q).kind, .slice sa (bX B q).secs.length sc, .int .i64 (bX B q).state] 41)) wx) (fun i _ => q - (intOf i).toNat)
     case atStart => exact ⟨0, Nat.zero_le _, rfl, fun j hj => absurd hj (by omega), Below.refl _ _⟩
     case round =>
      obtain ⟨l, hl, rfl, hall, hbx⟩ := hrel; have HX : Hid (∀ j, j < l → ¬ Clash (bX B q) (bX B j)) := hall; clear hall; have zx : wp.heap.size + 1 ≤ wr.heap.size := by have := hbx.size; simpa using this
      have hbW : Below (w.heap.size + 1) (w.alloc (.cells #[.int .i64 B.n, .slice (some ⟨b, o, none⟩) k co, .slice al L cl, .slice ac C cc] 37)) wr := hbo.trans (hbx.mono (by omega)); have hbw : Below w.heap.size w wr := B1.trans (hbW.mono (by omega))
      by_cases hlq : l < q
      ·
       obtain ⟨sb, sd, q'⟩ := g' l (by omega); obtain ⟨y0, y1, y2, y3, y4⟩ := q'.below hbw; clear q'; have hsq := hs q hlt; have hsl := hs l (by omega); have p0 : wr.cell? ⟨wp.heap.size, 0, none⟩ = some (.string (bX B q).holder) := (hbx.cell (p := ⟨wp.heap.size, 0, none⟩) (by simp)).trans (by simp [go_sem]); have p1 : wr.cell? ⟨wp.heap.size, 1, none⟩ = some (.int .i64 (bX B q).kind) := (hbx.cell (p := ⟨wp.heap.size, 1, none⟩) (by simp)).trans (by simp [go_sem]); have p2' : wr.cell? ⟨wp.heap.size, 2, none⟩ = some (.slice sa (bX B q).secs.length sc) := (hbx.cell (p := ⟨wp.heap.size, 2, none⟩) (by simp)).trans (by simp [go_sem]); have p3 : wr.cell? ⟨wp.heap.size, 3, none⟩ = some (.int .i64 (bX B q).state) := (hbx.cell (p := ⟨wp.heap.size, 3, none⟩) (by simp)).trans (by simp [go_sem]); have n1 : wr.cell? ⟨w.heap.size, 1, none⟩ = some (.slice (some ⟨b, o, none⟩) k co) := (hbW.cell (p := ⟨w.heap.size, 1, none⟩) (by simp)).trans (by simp [go_sem]); have x6 : Cells wr sa (bX B q).secs.length (fun i => .int .i64 (sV (bX B q) i)) := x5.below (by simpa using hbx); have y6 : Cells wr sb (bX B l).secs.length (fun i => .int .i64 (sV (bX B l) i)) := y4; have lb : b < wr.heap.size := World.block_lt_of_cell? _ _ y0; have ln : w.heap.size < wr.heap.size := by omega
       have lp : wp.heap.size < wr.heap.size := by omega
       have hz : (0 : Int) ≤ (l : Int) := by omega
       have hlz : (l : Int) < (k : Int) := by omega
       clear y4 x5 hs g' hd p2; obtain ⟨rq, hdq⟩ := dec_ex (bX B q).state; obtain ⟨rl, hdl⟩ := dec_ex (bX B l).state; cases rq with
       | true =>
        cases rl with
        | true =>
         obtain ⟨rm, hrm⟩ : ∃ rm : Bool, (rm = true ↔ Meet (bX B q).secs.length (bX B l).secs.length (sV (bX B q)) (sV (bX B l))) := by
          by_cases h : Meet (bX B q).secs.length (bX B l).secs.length (sV (bX B q)) (sV (bX B l))
          · exact ⟨true, ⟨fun _ => h, fun _ => rfl⟩⟩
          · exact ⟨false, ⟨fun e => (by cases e), fun u => absurd u h⟩⟩
         have HM : Hid (rm = true ↔ Meet (bX B q).secs.length (bX B l).secs.length (sV (bX B q)) (sV (bX B l))) := hrm; clear hrm; go_wp2
         go_region_held3 (fun w' => w'.cell? ⟨wp.heap.size, 0, none⟩ = some (.string (bX B q).holder) ∧ w'.cell? ⟨wp.heap.size, 1, none⟩ = some (.int .i64 (bX B q).kind) ∧ w'.cell? ⟨wp.heap.size, 2, none⟩ = some (.slice sa (bX B q).secs.length sc) ∧ w'.cell? ⟨wp.heap.size, 3, none⟩ = some (.int .i64 (bX B q).state) ∧ w'.cell? ⟨w.heap.size, 1, none⟩ = some (.slice (some ⟨b, o, none⟩) k co) ∧ w'.cell? ⟨b, o + l * 4, none⟩ = some (.string (bX B l).holder) ∧ w'.cell? ⟨b, o + l * 4 + 1, none⟩ = some (.int .i64 (bX B l).kind) ∧ w'.cell? ⟨b, o + l * 4 + 2, none⟩ = some (.slice sb (bX B l).secs.length sd) ∧ w'.cell? ⟨b, o + l * 4 + 3, none⟩ = some (.int .i64 (bX B l).state)) (go_keep)
          (first | (go_at_call 85; refine (l1open_dec _ _ _ _ _ _ (by assumption)).mono ?_; rintro e w1 ⟨rfl, hb1⟩; have hbR : Below wr.heap.size wr w1 := (by first | exact below_trans hbR hbR.size hb1 | exact (Below.refl _ _).drew.trans hb1); obtain ⟨hc1, hf1⟩ := bcell hbR; clear hf1 hb1) | (go_at_call 86; refine (l1meet_dec sa sb sc sd _ _ (sV (bX B q)) (sV (bX B l)) rm _ (by omega) (by omega) (x6.below hbR) (y6.below hbR) HM.out).mono ?_; rintro e w1 ⟨rfl, hb1⟩; have hbR : Below wr.heap.size wr w1 := (by first | exact below_trans hbR hbR.size hb1 | exact (Below.refl _ _).drew.trans hb1); obtain ⟨hc1, hf1⟩ := bcell hbR; clear hf1 hb1))
         clear hc1; have hbw2 : Below w.heap.size w w1 := below_trans hbw hbw.size hbR; cases rm with
         | true =>
          go_wp2; go_ret; refine ⟨RetC.three HS.out HAll.out (fun u => u q (by rw [← HO.out]; exact hlt) l hlq ⟨hdq.1 rfl, hdl.1 rfl, (by simpa using HM.out)⟩), hbw2⟩
         | false =>
          go_wp2; go_roundw
          case rel =>
           refine ⟨l + 1, by omega, by go_num, fun j hj => ?_, hbx.trans (hbR.mono (by omega))⟩
           by_cases e : j = l
           · subst e; exact fun u => by have := HM.out.2 u.2.2; simp at this
           · exact HX.out j (by omega)
          case measure => simp [intOf]; omega
        | false =>
         go_wp2; refine wp_region_any (by kernel_rfl) ?_
         change wpAny _ _ _ _ _ _ _ (World.drew _)
         refine ra1 0 rfl (fun K hK => ?_); go_simp; refine hK _ _ ?_; clear hK K; refine ra1 1 rfl (fun K hK => ?_); go_simp
         go_wp2_with ((go_at_call 85; refine (l1open_dec _ _ _ _ _ _ (by assumption)).mono ?_; rintro e w1 ⟨rfl, hb1⟩; have hbR : Below wr.heap.size wr w1 := (by first | exact below_trans hbR hbR.size hb1 | exact (Below.refl _ _).drew.trans hb1); obtain ⟨hc1, hf1⟩ := bcell hbR; clear hf1 hb1))
         refine ta 2 rfl ?_; refine ta 3 rfl ?_; refine ta 5 rfl ?_; refine ra1 4 rfl (fun K hK => ?_); go_simp; refine hK _ _ ?_; clear hK K; refine ta 6 rfl ?_; refine ra1 7 rfl (fun K hK => ?_); go_simp; refine hK _ _ ?_; clear hK K; refine ra1 8 rfl (fun K hK => ?_); go_simp
         go_wp2_with ((go_at_call 85; refine (l1open_dec _ _ _ _ _ _ (by assumption)).mono ?_; rintro e w1 ⟨rfl, hb1⟩; have hbR : Below wr.heap.size wr w1 := (by first | exact below_trans hbR hbR.size hb1 | exact (Below.refl _ _).drew.trans hb1); obtain ⟨hc1, hf1⟩ := bcell hbR; clear hf1 hb1))
         refine ta 9 rfl ?_; refine ta 10 rfl ?_; refine tb 11 rfl ?_; refine tb 12 rfl ?_; refine tb 13 rfl ?_; refine tb 14 rfl ?_; refine tb 15 rfl ?_; refine tb 16 rfl ?_; refine tb 17 rfl ?_; refine tb 18 rfl ?_; refine tb 19 rfl ?_; refine ta 20 rfl ?_; refine wpAny_end (by kernel_rfl) ?_; go_simp; clear hc1; go_wp2; go_roundw
         case rel =>
          refine ⟨l + 1, by omega, by go_num, fun j hj => ?_, hbx.trans (hbR.mono (by omega))⟩
          by_cases e : j = l
          · subst e; exact fun u => by have := hdl.2 u.2.1; cases this
          · exact HX.out j (by omega)
         case measure => simp [intOf]; omega
       | false =>
         go_wp2; refine wp_region_any (by kernel_rfl) ?_
         change wpAny _ _ _ _ _ _ _ (World.drew _)
         refine ra1 0 rfl (fun K hK => ?_); go_simp; refine hK _ _ ?_; clear hK K; refine ra1 1 rfl (fun K hK => ?_); go_simp
         go_wp2_with ((go_at_call 85; refine (l1open_dec _ _ _ _ _ _ (by assumption)).mono ?_; rintro e w1 ⟨rfl, hb1⟩; have hbR : Below wr.heap.size wr w1 := (by first | exact below_trans hbR hbR.size hb1 | exact (Below.refl _ _).drew.trans hb1); obtain ⟨hc1, hf1⟩ := bcell hbR; clear hf1 hb1))
         refine ta 2 rfl ?_; refine tb 3 rfl ?_; refine tb 4 rfl ?_; refine tb 5 rfl ?_; refine tb 6 rfl ?_; refine tb 7 rfl ?_; refine tb 8 rfl ?_; refine ta 9 rfl ?_; refine ta 10 rfl ?_; refine tb 11 rfl ?_; refine tb 12 rfl ?_; refine tb 13 rfl ?_; refine tb 14 rfl ?_; refine tb 15 rfl ?_; refine tb 16 rfl ?_; refine tb 17 rfl ?_; refine tb 18 rfl ?_; refine tb 19 rfl ?_; refine ta 20 rfl ?_; refine wpAny_end (by kernel_rfl) ?_; go_simp; clear hc1; go_wp2; go_roundw
         case rel =>
          refine ⟨l + 1, by omega, by go_num, fun j hj => ?_, hbx.trans (hbR.mono (by omega))⟩
          by_cases e : j = l
          · subst e; exact fun u => by have := hdq.2 u.1; cases this
          · exact HX.out j (by omega)
         case measure => simp [intOf]; omega
      ·
       obtain rfl : l = q := by omega
       clear hs g' p2 hd x5; go_wp2; go_roundw
       case rel =>
        refine ⟨l + 1, by omega, by go_num, fun i hi j hj => ?_, hbW⟩
        by_cases e : i = l
        · subst e; exact HX.out j hj
        · exact HC2.out i (by omega) j hj
       case measure => simp [intOf]; omega
    ·
     obtain rfl : q = k := by omega
     have HNC : Hid (NoClash B) := fun i hi j hj => HC2.out i (by rw [HO.out]; exact hi) j hj; have c1 : wr.cell? ⟨w.heap.size, 1, none⟩ = some (.slice ao q co) := (hb.cell (p := ⟨w.heap.size, 1, none⟩) (by simp)).trans (by simp [go_sem]); go_wp2; clear c1
     -- the third loop: what is locked
     go_loopw [108] (fun i wr => ∃ k : Nat, k ≤ q ∧ i = .int .i64 k ∧ (∀ i, i < k → ¬ LockedAt B (bX B i)) ∧ Below (w.heap.size + 1) (w.alloc (.cells #[.int .i64 B.n, .slice ao q co, .slice al L cl, .slice ac C cc] 37)) wr) (fun i _ => q - (intOf i).toNat)
     case atStart => exact ⟨0, Nat.zero_le _, rfl, fun i hi => absurd hi (by omega), hb⟩
     case round =>
      clear hb hbw zb; obtain ⟨k, hk, rfl, hall, hb⟩ := hrel; have zb : w.heap.size + 1 ≤ wr.heap.size := by have := hb.size; simpa using this
      have hbw : Below w.heap.size w wr := B1.trans (hb.mono (by omega)); have HK2 : Hid (∀ i, i < k → ¬ LockedAt B (bX B i)) := hall; clear hall
      by_cases hlt : k < q
      ·
       obtain rfl := hd (by omega); obtain ⟨sa, sc, q'⟩ := g' k hlt; obtain ⟨x0, x1, x2, x3, x4⟩ := q'.below hbw; have hsk := hs k hlt; have hlist : ListOk (bX B k).secs.length (sV (bX B k)) B.n := (HAll.out k (by rw [← HO.out]; exact hlt)).2.2.1; have HLi : Hid (ListOk (bX B k).secs.length (sV (bX B k)) B.n) := hlist; clear q' hlist; go_wp2; have hbo : Below (w.heap.size + 1) (w.alloc (.cells #[.int .i64 B.n, .slice (some ⟨b, o, none⟩) q co, .slice al L cl, .slice ac C cc] 37)) (wr.alloc (.cells #[.string (bX B k).holder, .int .i64 (bX B k).kind, .slice sa (bX B k).secs.length sc, .int .i64 (bX B k).state] 41)) := hb.alloc zb _; have x5 : Cells (wr.alloc (.cells #[.string (bX B k).holder, .int .i64 (bX B k).kind, .slice sa (bX B k).secs.length sc, .int .i64 (bX B k).state] 41)) sa (bX B k).secs.length (fun i => .int .i64 (sV (bX B k) i)) := x4.below (below1 _ _); clear x0 x1 x2 x3 x4 hb hbw g' hs hd; obtain ⟨wp, hwp⟩ : ∃ wp : World, wp = wr := ⟨_, rfl⟩; rw [← hwp] at hbo x5 zb ⊢; clear hwp; obtain ⟨M, hM⟩ : ∃ M, M = (bX B k).secs.length := ⟨_, rfl⟩; have HM : Hid (M = (bX B k).secs.length) := hM; rw [← hM] at hbo x5 hsk ⊢; clear hM
       go_loopw [115] (fun i wx => ∃ l : Nat, l ≤ M ∧ i = .int .i64 l ∧ (∀ j, j < l → OpenP (bX B k).state → B.locked.getD (sV (bX B k) j).toNat false = false) ∧ Below (wp.heap.size + 1) (wp.alloc (.cells #[.string (bX B k).holder, .int .i64 (bX B k).kind, .slice sa M sc, .int .i64 (bX B k).state] 41)) wx) (fun i _ => M - (intOf i).toNat)
       case atStart => exact ⟨0, Nat.zero_le _, rfl, fun j hj => absurd hj (by omega), Below.refl _ _⟩
       case round =>
        obtain ⟨l, hl, rfl, hall, hbx⟩ := hrel; have HX : Hid (∀ j, j < l → OpenP (bX B k).state → B.locked.getD (sV (bX B k) j).toNat false = false) := hall; clear hall; have zx : wp.heap.size + 1 ≤ wr.heap.size := by have := hbx.size; simpa using this
        have hbW : Below (w.heap.size + 1) (w.alloc (.cells #[.int .i64 B.n, .slice (some ⟨b, o, none⟩) q co, .slice al L cl, .slice ac C cc] 37)) wr := hbo.trans (hbx.mono (by omega)); have hbw : Below w.heap.size w wr := B1.trans (hbW.mono (by omega))
        by_cases hlM : l < M
        ·
         have x6 : Cells wr sa M (fun i => .int .i64 (sV (bX B k) i)) := x5.below (by simpa using hbx); obtain ⟨b3, o3, d3, g3⟩ := x6; obtain rfl := d3 (by omega); have e3 : wr.cell? ⟨b3, o3 + l, none⟩ = some (.int .i64 (sV (bX B k) l)) := g3 l hlM; have p0 : wr.cell? ⟨wp.heap.size, 0, none⟩ = some (.string (bX B k).holder) := (hbx.cell (p := ⟨wp.heap.size, 0, none⟩) (by simp)).trans (by simp [go_sem]); have p1 : wr.cell? ⟨wp.heap.size, 1, none⟩ = some (.int .i64 (bX B k).kind) := (hbx.cell (p := ⟨wp.heap.size, 1, none⟩) (by simp)).trans (by simp [go_sem]); have p2' : wr.cell? ⟨wp.heap.size, 2, none⟩ = some (.slice (some ⟨b3, o3, none⟩) M sc) := (hbx.cell (p := ⟨wp.heap.size, 2, none⟩) (by simp)).trans (by simp [go_sem]); have p3 : wr.cell? ⟨wp.heap.size, 3, none⟩ = some (.int .i64 (bX B k).state) := (hbx.cell (p := ⟨wp.heap.size, 3, none⟩) (by simp)).trans (by simp [go_sem]); have n2 : wr.cell? ⟨w.heap.size, 2, none⟩ = some (.slice al L cl) := (hbW.cell (p := ⟨w.heap.size, 2, none⟩) (by simp)).trans (by simp [go_sem]); obtain ⟨s, hs⟩ : ∃ s, s = sV (bX B k) l := ⟨_, rfl⟩; rw [← hs] at e3
         have hs0 : 0 ≤ s ∧ s < (L : Int) := by
          have := HLi.out.1 l (by rw [← HM.out]; exact hlM); have := H1.out; rw [hs]; omega
         have HSq : Hid (s = sV (bX B k) l) := hs; clear hs x5 d3 g3; obtain ⟨hs1, hs2⟩ := hs0; obtain ⟨b4, o4, d4, g4⟩ := p2; have hL0 : 0 < L := by omega
         obtain rfl := d4 hL0; have e4 : wr.cell? ⟨b4, o4 + s.toNat, none⟩ = some (.bool (B.locked.getD s.toNat false)) := (hbw.cell (p := ⟨b4, o4 + s.toNat, none⟩) (World.block_lt_of_cell? _ _ (g4 s.toNat (by omega)))).trans (g4 s.toNat (by omega)); have l4 : b4 < wr.heap.size := World.block_lt_of_cell? _ _ e4; have ln : w.heap.size < wr.heap.size := by omega
         obtain ⟨lk, hlk⟩ : ∃ lk, lk = B.locked.getD s.toNat false := ⟨_, rfl⟩; rw [← hlk] at e4; have HLk : Hid (lk = B.locked.getD s.toNat false) := hlk; clear hlk d4 g4
         go_wp2_with fail
         refine (l1open_any _ _ _ (bX B k).state _).mono ?_; rintro e w1 ⟨hr, hb1⟩; have hb2 : Below (wp.heap.size + 1) (wp.alloc (.cells #[.string (bX B k).holder, .int .i64 (bX B k).kind, .slice (some ⟨b3, o3, none⟩) M sc, .int .i64 (bX B k).state] 41)) w1 := hbx.trans (hb1.mono (by omega)); have hbw1 : Below w.heap.size w w1 := below_trans hbw hbw.size hb1; have f2 : w1.cell? ⟨w.heap.size, 2, none⟩ = some (.slice (some ⟨b4, o4, none⟩) L cl) := (hb1.cell (p := ⟨w.heap.size, 2, none⟩) ln).trans n2; have f4 : w1.cell? ⟨b4, o4 + s.toNat, none⟩ = some (.bool lk) := (hb1.cell (p := ⟨b4, o4 + s.toNat, none⟩) l4).trans e4; clear p0 p1 p2' p3 n2 e3 e4 hb1 hbx hbW hbw; rcases hr.cases with ⟨rfl, hp⟩ | ⟨rfl, hp⟩
         ·
          have HP5 : Hid (OpenP (bX B k).state) := hp; clear hp hr; cases lk with
          | true =>
           go_wp2; go_ret; refine ⟨RetC.four HS.out HAll.out HNC.out (fun u => u k (by rw [← HO.out]; exact hlt) ⟨HP5.out, l, by rw [← HM.out]; exact hlM, by rw [← HSq.out]; exact HLk.out.symm⟩), hbw1⟩
          | false =>
           go_wp2; go_roundw
           case rel =>
            refine ⟨l + 1, by omega, by go_num, fun j hj ho => ?_, hb2⟩
            by_cases e : j = l
            · subst e; rw [← HSq.out]; exact HLk.out.symm
            · exact HX.out j (by omega) ho
           case measure => simp [intOf]; omega
         ·
          have HP5 : Hid (¬ OpenP (bX B k).state) := hp; clear hp hr f2 f4; go_wp2; go_roundw
          case rel => exact ⟨l + 1, by omega, by go_num, fun j hj ho => absurd ho HP5.out, hb2⟩
          case measure => simp [intOf]; omega
        ·
         obtain rfl : l = M := by omega
         clear p2 x5; go_wp2; go_roundw
         case rel =>
          refine ⟨k + 1, by omega, by go_num, fun i hi => ?_, hbW⟩
          by_cases e : i = k
          ·
           subst e; rintro ⟨u1, j, u2, u3⟩; have := HX.out j (by rw [HM.out]; exact u2) u1; rw [this] at u3; cases u3
          · exact HK2.out i (by omega)
         case measure => simp [intOf]; omega
      ·
       obtain rfl : k = q := by omega
       clear hd g' hs p2; go_wp2; go_ret; exact ⟨RetC.zero HS.out HAll.out HNC.out (fun i hi => HK2.out i (by rw [HO.out]; exact hi)), hbw⟩
end Go.Proofs.YtdlaekjofgbjcaaGreatDoor
