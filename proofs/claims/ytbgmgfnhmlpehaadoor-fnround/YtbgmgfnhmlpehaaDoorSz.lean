/-
  The contracts of laws.szIntS, szBoolS, szOrder, szOrderS, szBook. Mine, by template (wip/gen.py).
-/
import Derived.Test.YtbgmgfnhmlpehaaDoorBase
namespace Go.Proofs.YtbgmgfnhmlpehaaDoor
open Go.RowKit

/-- What a 'sz' function answers: less than nothing, or what is left. -/
def szOk (left total r : Int) : Prop := r < 0 ∨ (0 ≤ r ∧ r + total = left)

def wOrd (x : Ord) : Nat := x.holder.size + x.secs.length
def wOrds : List Ord → Nat
  | [] => 0
  | x :: r => wOrd x + wOrds r

theorem wOrds_take (xs : List Ord) (k : Nat) (h : k < xs.length) : wOrds (xs.take (k + 1)) = wOrds (xs.take k) + wOrd (xs.getD k Ord.zero) := by
  induction xs generalizing k with
  | nil => simp at h
  | cons x r ih =>
    cases k with
    | zero => simp [wOrds]
    | succ k => simp only [List.take_succ_cons, wOrds, List.getD_cons_succ]; rw [ih k (by simpa using h)]; omega

theorem wOrds_mem (xs : List Ord) (k : Nat) (h : k < xs.length) : wOrd (xs.getD k Ord.zero) ≤ wOrds xs := by
  induction xs generalizing k with
  | nil => simp at h
  | cons x r ih =>
    cases k with
    | zero => simp [wOrds]
    | succ k => simp only [wOrds, List.getD_cons_succ]; have := ih k (by simpa using h); omega

set_option maxHeartbeats 400000 in
theorem szIntS_any (a : Option Addr) (n c : Nat) (left : Int) (w : World) (hn : n ≤ 9223372036854775807) (h0 : 0 ≤ left) (h1 : left ≤ 1048576) :
    Calls Tryd.prog 84 #[.slice a n c, .int .i64 left] w fun e w' => ∃ r, e = .returned (.int .i64 r) ∧ szOk left n r ∧ Below w.heap.size w w' := by
  go_enter Tryd.func84, Tryd.ntmps84
  by_cases h : left - n < 0
  · go_wp2
    go_ret
    exact ⟨_, rfl, Or.inl (by decide), Below.refl _ _⟩
  · go_wp2
    go_ret
    exact ⟨_, rfl, Or.inr ⟨by omega, by omega⟩, Below.refl _ _⟩

set_option maxHeartbeats 400000 in
theorem szBoolS_any (a : Option Addr) (n c : Nat) (left : Int) (w : World) (hn : n ≤ 9223372036854775807) (h0 : 0 ≤ left) (h1 : left ≤ 1048576) :
    Calls Tryd.prog 34 #[.slice a n c, .int .i64 left] w fun e w' => ∃ r, e = .returned (.int .i64 r) ∧ szOk left n r ∧ Below w.heap.size w w' := by
  go_enter Tryd.func34, Tryd.ntmps34
  by_cases h : left - n < 0
  · go_wp2
    go_ret
    exact ⟨_, rfl, Or.inl (by decide), Below.refl _ _⟩
  · go_wp2
    go_ret
    exact ⟨_, rfl, Or.inr ⟨by omega, by omega⟩, Below.refl _ _⟩

set_option maxHeartbeats 400000 in
theorem szOrder_any (s : ByteArray) (k t : Int) (a : Option Addr) (n c : Nat) (left : Int) (w : World) (hs : s.size ≤ 9223372036854775807) (hn : n ≤ 9223372036854775807) (h0 : 0 ≤ left) (h1 : left ≤ 1048576) :
    Calls Tryd.prog 61 #[.agg #[.string s, .int .i64 k, .slice a n c, .int .i64 t], .int .i64 left] w fun e w' => ∃ r, e = .returned (.int .i64 r) ∧ szOk left ((s.size : Int) + n) r ∧ Below w.heap.size w w' := by
  go_enter Tryd.func61, Tryd.ntmps61
  by_cases h : left - s.size < 0
  · go_wp2
    go_ret
    exact ⟨_, rfl, Or.inl (by decide), below1 _ _⟩
  · go_wp2_with fail
    refine (szIntS_any a n c _ _ hn (by omega) (by omega)).mono ?_
    rintro e w1 ⟨r, rfl, hr, hb⟩
    have B := below_trans (below1 w _) (by simp) hb
    clear hb
    by_cases h2 : r < 0
    · clear hr
      go_wp2
      go_ret
      exact ⟨_, rfl, Or.inl (by decide), B⟩
    · have HR : Hid (szOk (left - s.size) n r) := hr
      clear hr
      go_wp2
      go_ret
      refine ⟨_, rfl, Or.inr ?_, B⟩
      rcases HR.out with h3 | h3
      · omega
      · omega

set_option maxHeartbeats 400000 in
theorem szOrderS_any (a : Option Addr) (c : Nat) (xs : List Ord) (left : Int) (w : World) (hn : xs.length ≤ 9223372036854775807)
    (hx : ∀ i, i < xs.length → (xs.getD i Ord.zero).secs.length ≤ 9223372036854775807 ∧ (xs.getD i Ord.zero).holder.size ≤ 9223372036854775807) (h0 : 0 ≤ left) (h1 : left ≤ 1048576) (G : OrdersAt w a xs) :
    Calls Tryd.prog 33 #[.slice a xs.length c, .int .i64 left] w fun e w' => ∃ r, e = .returned (.int .i64 r) ∧ szOk left ((xs.length : Int) + wOrds xs) r ∧ Below w.heap.size w w' := by
  obtain ⟨n, hln⟩ : ∃ n, n = xs.length := ⟨_, rfl⟩
  obtain ⟨X, hX⟩ : ∃ X : Nat → Ord, X = fun i => xs.getD i Ord.zero := ⟨_, rfl⟩
  obtain ⟨S, hS⟩ : ∃ S : Nat → Nat, S = fun k => wOrds (xs.take k) := ⟨_, rfl⟩
  have K : ∃ b o, (0 < n → a = some ⟨b, o, none⟩) ∧ ∀ i, i < n → ∃ sa sc, OrdAt w b (o + i * 4) (X i) sa sc := by rw [hln, hX]; exact G
  have hs : ∀ i, i < n → (X i).secs.length ≤ 9223372036854775807 ∧ (X i).holder.size ≤ 9223372036854775807 := by rw [hln, hX]; exact hx
  have hS0 : S 0 = 0 := by rw [hS]; rfl
  have hS1 : ∀ k, k < n → S (k + 1) = S k + ((X k).holder.size + (X k).secs.length) := by rw [hln, hX, hS]; exact fun k h => wOrds_take xs k h
  have hSn : S n = wOrds xs := by rw [hS, hln]; simp
  rw [← hSn, ← hln]
  rw [← hln] at hn
  clear G hx hX hln hS hSn
  have HS0 : Hid (S 0 = 0) := hS0
  have HS1 : Hid (∀ k, k < n → S (k + 1) = S k + ((X k).holder.size + (X k).secs.length)) := hS1
  clear hS0 hS1
  obtain ⟨b, o, h2, g⟩ := K
  go_enter Tryd.func33, Tryd.ntmps33
  by_cases h : left - n < 0
  · go_wp2
    go_ret
    exact ⟨_, rfl, Or.inl (by decide), Below.refl _ _⟩
  · go_wp2
    go_loopw [1, 5] (fun l i wr => ∃ (k : Nat) (r : Int), k ≤ n ∧ i = .int .i64 k ∧ l = .int .i64 r ∧ 0 ≤ r ∧ r + (n : Int) + S k = left ∧ Below w.heap.size w wr) (fun _ i _ => n - (intOf i).toNat)
    case atStart => exact ⟨0, left - n, Nat.zero_le _, rfl, rfl, by omega, by rw [HS0.out]; omega, Below.refl _ _⟩
    case round =>
      obtain ⟨k, r, hk, rfl, rfl, hr0, hr, hb⟩ := hrel
      by_cases hlt : k < n
      · obtain rfl := h2 (by omega)
        obtain ⟨sa, sc, q⟩ := g k hlt
        have hsk := hs k hlt
        have q' := q.below hb
        clear g h2 hs q
        obtain ⟨x0, x1, x2, x3, x4⟩ := q'
        have hrl : r ≤ 1048576 := by omega
        have HR : Hid (r + (n : Int) + S k = left) := hr
        clear hr
        go_wp2_with fail
        refine (szOrder_any _ _ _ sa _ sc r _ hsk.2 hsk.1 hr0 hrl).mono ?_
        rintro e w1 ⟨r1, rfl, hr1, hb1⟩
        have HR1 : Hid (szOk r (((X k).holder.size : Int) + (X k).secs.length) r1) := hr1
        have hb2 := below_trans hb hb.size hb1
        clear hb1 hr1 x0 x1 x2 x3 x4
        by_cases h3 : r1 < 0
        · go_wp2
          go_ret
          exact ⟨_, rfl, Or.inl (by decide), hb2⟩
        · go_wp2
          go_roundw
          case rel =>
            refine ⟨k + 1, r1, by omega, by go_num, rfl, by omega, ?_, hb2⟩
            have e1 := HS1.out k hlt
            have e2 := HR.out
            rcases HR1.out with e3 | ⟨e3, e4⟩
            · omega
            · rw [e1]; omega
          case measure => simp [intOf]; omega
      · clear g h2 hs
        have HR : Hid (r + (n : Int) + S k = left) := hr
        clear hr
        go_wp2
        go_ret
        refine ⟨_, rfl, Or.inr ⟨hr0, ?_⟩, hb⟩
        obtain rfl : k = n := by omega
        have := HR.out
        omega

def wBk (B : Bk) : Nat := B.orders.length + wOrds B.orders + B.locked.length + B.occ.length

set_option maxHeartbeats 400000 in
theorem szBook_any (v : Value) (B : Bk) (left : Int) (w : World) (hn : B.orders.length ≤ 9223372036854775807)
    (hx : ∀ i, i < B.orders.length → (B.orders.getD i Ord.zero).secs.length ≤ 9223372036854775807 ∧ (B.orders.getD i Ord.zero).holder.size ≤ 9223372036854775807)
    (hl : B.locked.length ≤ 9223372036854775807) (hc : B.occ.length ≤ 9223372036854775807) (h0 : 0 ≤ left) (h1 : left ≤ 1048576) (G : BookAt w v B) :
    Calls Tryd.prog 15 #[v, .int .i64 left] w fun e w' => ∃ r, e = .returned (.int .i64 r) ∧ szOk left (wBk B) r ∧ Below w.heap.size w w' := by
  obtain ⟨ao, co, al, cl, ac, cc, rfl, p1, p2, p3⟩ := G
  go_enter Tryd.func15, Tryd.ntmps15
  go_wp2_with fail
  have B1 := below1 w (.cells #[.int .i64 B.n, .slice ao B.orders.length co, .slice al B.locked.length cl, .slice ac B.occ.length cc] 47)
  refine (szOrderS_any ao co B.orders left _ hn hx h0 h1 (p1.below B1)).mono ?_
  rintro e w1 ⟨r1, rfl, hr1, hb⟩
  have HR1 : Hid (szOk left ((B.orders.length : Int) + wOrds B.orders) r1) := hr1
  have hr1' : r1 ≤ 1048576 := by rcases hr1 with h | h <;> omega
  obtain ⟨hc1, hf⟩ := bcell hb
  have z1 : w.heap.size < w1.heap.size := by have := hb.size; simp at this; omega
  have B2 := below_trans B1 B1.size hb
  clear hf hb B1 hr1
  by_cases t1 : r1 < 0
  · go_wp2
    go_ret
    exact ⟨_, rfl, Or.inl (by decide), B2⟩
  go_wp2_with fail
  refine (szBoolS_any al _ cl r1 _ hl (by omega) hr1').mono ?_
  rintro e w2 ⟨r2, rfl, hr2, hb⟩
  have HR2 : Hid (szOk r1 B.locked.length r2) := hr2
  have hr2' : r2 ≤ 1048576 := by rcases hr2 with h | h <;> omega
  have hc2 : ∀ o, w2.cell? ⟨w.heap.size, o, none⟩ = w1.cell? ⟨w.heap.size, o, none⟩ := fun o => hb.cell (p := ⟨w.heap.size, o, none⟩) z1
  have B3 := below_trans B2 B2.size hb
  clear hb B2 hr2
  by_cases t2 : r2 < 0
  · go_wp2
    go_ret
    exact ⟨_, rfl, Or.inl (by decide), B3⟩
  go_wp2_with fail
  refine (szBoolS_any ac _ cc r2 _ hc (by omega) hr2').mono ?_
  rintro e w3 ⟨r3, rfl, hr3, hb⟩
  have HR3 : Hid (szOk r2 B.occ.length r3) := hr3
  have B4 := below_trans B3 B3.size hb
  clear hb B3 hr3
  by_cases t3 : r3 < 0
  · go_wp2
    go_ret
    exact ⟨_, rfl, Or.inl (by decide), B4⟩
  · go_wp2
    go_ret
    refine ⟨_, rfl, ?_, B4⟩
    have e1 := HR1.out
    have e2 := HR2.out
    have e3 := HR3.out
    unfold szOk at e1 e2 e3 ⊢
    unfold wBk
    omega

end Go.Proofs.YtbgmgfnhmlpehaaDoor
