/-
  The contracts of spec.Open, impl.Open. Mine, by template (wip/gen.py).
-/
import Derived.Test.YtbgmgfnhmlpehaaWho
import Derived.Test.YtbgmgfnhmlpehaaTo
namespace Go.Proofs.Ytbgmgfnhmlpehaa
open Go.RowKit

/-- The open ones among the first k. -/
def openTo (X : Nat → Ord) : Nat → List Int
  | 0 => []
  | k + 1 => openTo X k ++ (if (X k).state = 2 ∨ (X k).state = 3 then [(k : Int)] else [])

theorem openTo_yes {X : Nat → Ord} {k : Nat} (h : OpenP (X k).state) : openTo X (k + 1) = openTo X k ++ [(k : Int)] := by
  show openTo X k ++ (if (X k).state = 2 ∨ (X k).state = 3 then [(k : Int)] else []) = _
  rw [if_pos (show (X k).state = 2 ∨ (X k).state = 3 from h)]
theorem openTo_no {X : Nat → Ord} {k : Nat} (h : ¬ OpenP (X k).state) : openTo X (k + 1) = openTo X k := by
  show openTo X k ++ (if (X k).state = 2 ∨ (X k).state = 3 then [(k : Int)] else []) = _
  rw [if_neg (show ¬ ((X k).state = 2 ∨ (X k).state = 3) from h), List.append_nil]
theorem openTo_le (X : Nat → Ord) (k : Nat) : (openTo X k).length ≤ k := by
  induction k with
  | zero => simp [openTo]
  | succ k ih =>
    by_cases h : OpenP (X k).state
    · rw [openTo_yes h]; simp; omega
    · rw [openTo_no h]; omega

def OpenIs (B : Bk) (l : List Int) : Prop := (¬ Right B ∧ l = []) ∨ (Right B ∧ l = openTo (bX B) B.orders.length)

theorem OpenIs.det {B : Bk} {l m : List Int} (h : OpenIs B l) (k : OpenIs B m) : l = m := by
  rcases h with ⟨h1, h2⟩ | ⟨h1, h2⟩ <;> rcases k with ⟨k1, k2⟩ | ⟨k1, k2⟩
  · rw [h2, k2]
  · exact absurd k1 h1
  · exact absurd h1 k1
  · rw [h2, k2]

theorem OpenIs.le {B : Bk} {l : List Int} (h : OpenIs B l) : l.length ≤ B.orders.length := by
  rcases h with ⟨_, rfl⟩ | ⟨_, rfl⟩
  · simp
  · exact openTo_le _ _

/-- A slice of ints that owns its memory from lo on. -/
def OwnL (w : World) (lo : Nat) (v : Value) (l : List Int) (g : Nat) : Prop := ∃ ad cap, v = .slice ad l.length cap ∧ (0 < l.length → ad = some ⟨g, 0, none⟩ ∧ lo ≤ g ∧ Pre w g 3 l.length (iV l))

theorem OwnL.below {w w' : World} {lo : Nat} {v : Value} {l : List Int} {g : Nat} (h : OwnL w lo v l g) (hb : Below w.heap.size w w') : OwnL w' lo v l g := by
  obtain ⟨ad, cap, h1, h2⟩ := h
  exact ⟨ad, cap, h1, fun hp => ⟨(h2 hp).1, (h2 hp).2.1, (h2 hp).2.2.of_block (hb.block _ (h2 hp).2.2.lt)⟩⟩

theorem pre_cells {w : World} {ad : Option Addr} {n g : Nat} {f : Nat → Value} (h : 0 < n → ad = some ⟨g, 0, none⟩ ∧ Pre w g 3 n f) : Cells w ad n f :=
  ⟨g, 0, fun hp => (h hp).1, fun i hi => by rw [Nat.zero_add]; exact (h (by omega)).2.cell hi⟩

theorem ownL_of {w : World} {lo : Nat} {v : Value} {l : List Int} (h : w.ownsRow lo 3 1 v l.length (l.map (Value.int .i64))) : ∃ g, OwnL w lo v l g := by
  obtain ⟨_, h2⟩ := h
  rcases h2 with ⟨rfl, h0⟩ | ⟨g, cap, cur, rfl, h1, h3, h4, _, h5, h6⟩
  · have : l = [] := List.length_eq_zero_iff.1 h0
    subst this
    exact ⟨0, none, 0, rfl, fun h => absurd h (by simp)⟩
  · refine ⟨g, some ⟨g, 0, none⟩, cap, rfl, fun _ => ⟨rfl, h1, cur, h3, by omega, fun i hi => ?_⟩⟩
    have e : (cur.toList.take (l.length * 1))[i]? = (l.map (Value.int .i64))[i]? := by rw [h6]
    rw [List.getElem?_take, if_pos (by omega)] at e
    rw [← Array.getElem?_toList, e]
    simp [iV, hi]

theorem ownsRow_below {w w' : World} {lo : Nat} {e : TypeId} {v : Value} {n : Nat} {xs : List Value} (h : w.ownsRow lo e 1 v n xs) (hb : Below w.heap.size w w') : w'.ownsRow lo e 1 v n xs := by
  obtain ⟨h1, h2⟩ := h
  refine ⟨h1, ?_⟩
  rcases h2 with h2 | ⟨g, cap, cur, hv, hg, hh, r⟩
  · exact Or.inl h2
  · have hlt : g < w.heap.size := (Array.getElem?_eq_some_iff.1 hh).1
    exact Or.inr ⟨g, cap, cur, hv, hg, (hb.block _ hlt).trans hh, r⟩

theorem ownBlock_low {w : World} {lo : Nat} {e : TypeId} {v : Value} {n : Nat} {xs : List Value} (h : w.ownsRow lo e 1 v n xs) {j : Nat} (hj : v.ownBlock = some j) : lo ≤ j := by
  obtain ⟨_, h2⟩ := h
  rcases h2 with ⟨rfl, _⟩ | ⟨g, cap, cur, rfl, hg, _⟩
  · simp [Value.ownBlock] at hj
  · simp [Value.ownBlock] at hj
    omega

/-- What Open answers. -/
def RetL (e : Ending) (w' : World) (lo : Nat) (B : Bk) : Prop := ∃ v l g, e = .returned v ∧ OpenIs B l ∧ OwnL w' lo v l g

set_option maxHeartbeats 2000000 in
theorem specOpen_any (v : Value) (B : Bk) (w : World) (ho : B.orders.length ≤ 1048576) (hs : ∀ i, i < B.orders.length → (bX B i).secs.length ≤ 1048576 ∧ (bX B i).holder.size ≤ 1048576) (hw : -9223372036854775808 ≤ B.n ∧ B.n ≤ 9223372036854775807) (G : BookAt w v B) :
    Calls Try.prog 16 #[v] w fun e w' => RetL e w' w.heap.size B ∧ Below w.heap.size w w' := by
  have G0 := G
  obtain ⟨ao, co, al, cl, ac, cc, rfl, ⟨b, o, hd, g⟩, -⟩ := G
  have g' : ∀ i, i < B.orders.length → ∃ sa sc, OrdAt w b (o + i * 4) (bX B i) sa sc := g
  have HG : Hid (BookAt w (.agg #[.int .i64 B.n, .slice ao B.orders.length co, .slice al B.locked.length cl, .slice ac B.occ.length cc]) B) := G0
  clear G0 g
  obtain ⟨i0, hi, hz0, hz1, hz2⟩ := info_parts Try.infoInt
  go_enter Try.func16, Try.ntmps16
  go_wp2_with fail
  have B1 := below1 w (.cells #[.int .i64 B.n, .slice ao B.orders.length co, .slice al B.locked.length cl, .slice ac B.occ.length cc] 25)
  refine (specBookOk_any _ B _ ho hs hw (HG.out.below B1)).mono ?_
  rintro e w1 ⟨⟨c, rfl, hc⟩, hb1⟩
  have bx : w1.heap[w.heap.size]? = some (.cells #[.int .i64 B.n, .slice ao B.orders.length co, .slice al B.locked.length cl, .slice ac B.occ.length cc] 25 (0, 0)) := (hb1.block _ (by simp)).trans (Deep.blk_alloc_new _ _)
  have hbw1 : Below w.heap.size w w1 := B1.trans (hb1.mono (by simp))
  have z1 : w.heap.size < w1.heap.size := by have := hb1.size; simp at this; omega
  clear hb1 B1
  by_cases c0 : c = 0
  case neg =>
    have HR : Hid (¬ Right B) := fun r => c0 (hc.right.2 r)
    have t : (c != 0) = true := by simpa using c0
    clear hc bx c0 hd g' hs
    go_wp2
    go_ret
    exact ⟨⟨_, [], 0, rfl, Or.inl ⟨HR.out, rfl⟩, none, 0, rfl, fun h => absurd h (by simp)⟩, hbw1⟩
  have HR : Hid (Right B) := hc.right.1 c0
  subst c0
  clear hc
  have cx1 : w1.cell? ⟨w.heap.size, 1, none⟩ = some (.slice ao B.orders.length co) := by simp [World.cell?, bx]
  go_wp2
  clear cx1
  obtain ⟨O, hO⟩ : ∃ O, O = B.orders.length := ⟨_, rfl⟩
  have HO : Hid (O = B.orders.length) := hO
  rw [← hO] at ho hs hd g' ⊢
  clear hO bx
  go_loopw [3, 12] (fun u i wr => ∃ k : Nat, k ≤ O ∧ i = .int .i64 k ∧ wr.ownsRow w.heap.size 3 1 u (openTo (bX B) k).length ((openTo (bX B) k).map (Value.int .i64)) ∧ Below w.heap.size w wr) (fun _ i _ => O - (intOf i).toNat)
  case atStart => exact ⟨0, Nat.zero_le _, rfl, World.ownsRow_nil _ _ _ _, hbw1⟩
  case round =>
    rename_i u3 _
    obtain ⟨k, hk, rfl, hown, hb⟩ := hrel
    have hle := openTo_le (bX B) k
    by_cases hlt : k < O
    · obtain rfl := hd (by omega)
      obtain ⟨sa, sc, q⟩ := g' k hlt
      obtain ⟨x0, x1, x2, x3, x4⟩ := q.below hb
      clear q g' hs hd x4
      go_wp2_with fail
      refine (l1open_any _ _ _ (bX B k).state _).mono ?_
      rintro e w2 ⟨hr, hb2⟩
      have st : Below wr.heap.size wr w2 := (below1 _ _).trans (hb2.mono (by simp))
      have hbw2 : Below w.heap.size w w2 := below_trans hb hb.size st
      have hown2 : w2.ownsRow w.heap.size 3 1 _ (openTo (bX B) k).length ((openTo (bX B) k).map (Value.int .i64)) := ownsRow_below hown st
      clear hb2 x0 x1 x2 x3 hb st hown
      rcases hr.cases with ⟨rfl, hp⟩ | ⟨rfl, hp⟩
      · have HP : Hid (openTo (bX B) (k + 1) = openTo (bX B) k ++ [(k : Int)]) := openTo_yes hp
        clear hp hr
        go_wp2_with (at_builtin; refine wpList_append_own _ rfl _ _ 37 rfl w.heap.size 3 i0 (.int .i64 0) 1 8 Try.underlying37 hi hz0 hz1 hz2 rfl (by decide) _ _ _ rfl (hown2.alloc _) ⟨w2.heap.size, 0, none⟩ 1 1 [.int .i64 (k : Int)] rfl rfl (cell_one_new _ _ _) (ints_oneCell .i64 [(k : Int)]) (by unfold maxLen; omega) (by omega) (by have := hbw2.size; simp; omega) ?_; intro v' w5 hown5 hgrow5 _)
        go_roundw
        case rel =>
          refine ⟨k + 1, by omega, by go_num, ?_, (hbw2.alloc hbw2.size _).grown hgrow5 (by have := hbw2.size; simp; omega) (fun j hj => ownBlock_low hown2 hj)⟩
          rw [HP.out]
          simpa using hown5
        case measure => simp [intOf]; omega
      · have HP : Hid (openTo (bX B) (k + 1) = openTo (bX B) k) := openTo_no hp
        clear hp hr
        go_wp2
        go_roundw
        case rel =>
          refine ⟨k + 1, by omega, by go_num, ?_, hbw2⟩
          rw [HP.out]
          exact hown2
        case measure => simp [intOf]; omega
    · obtain rfl : k = O := by omega
      have HW : Hid (wr.ownsRow w.heap.size 3 1 u3 (openTo (bX B) k).length ((openTo (bX B) k).map (Value.int .i64))) := hown
      clear g' hs hd hown
      go_wp2
      go_ret
      obtain ⟨gg, hgg⟩ := ownL_of HW.out
      exact ⟨⟨_, _, gg, rfl, Or.inr ⟨HR.out, by rw [← HO.out]⟩, hgg⟩, hb⟩

set_option maxHeartbeats 2000000 in
theorem implOpen_any (v : Value) (B : Bk) (w : World) (ho : B.orders.length ≤ 1048576) (hs : ∀ i, i < B.orders.length → (bX B i).secs.length ≤ 1048576 ∧ (bX B i).holder.size ≤ 1048576) (G : BookAt w v B) :
    Calls Try.prog 17 #[v] w fun e w' => RetL e w' w.heap.size B ∧ Below w.heap.size w w' := by
  have G0 := G
  obtain ⟨ao, co, al, cl, ac, cc, rfl, ⟨b, o, hd, g⟩, -⟩ := G
  have g' : ∀ i, i < B.orders.length → ∃ sa sc, OrdAt w b (o + i * 4) (bX B i) sa sc := g
  have HG : Hid (BookAt w (.agg #[.int .i64 B.n, .slice ao B.orders.length co, .slice al B.locked.length cl, .slice ac B.occ.length cc]) B) := G0
  clear G0 g
  obtain ⟨i0, hi, hz0, hz1, hz2⟩ := info_parts Try.infoInt
  go_enter Try.func17, Try.ntmps17
  go_wp2_with fail
  have B1 := below1 w (.cells #[.int .i64 B.n, .slice ao B.orders.length co, .slice al B.locked.length cl, .slice ac B.occ.length cc] 25)
  refine (implBookOk_any _ B _ ho hs (HG.out.below B1)).mono ?_
  rintro e w1 ⟨⟨c, rfl, hc⟩, hb1⟩
  have bx : w1.heap[w.heap.size]? = some (.cells #[.int .i64 B.n, .slice ao B.orders.length co, .slice al B.locked.length cl, .slice ac B.occ.length cc] 25 (0, 0)) := (hb1.block _ (by simp)).trans (Deep.blk_alloc_new _ _)
  have hbw1 : Below w.heap.size w w1 := B1.trans (hb1.mono (by simp))
  have z1 : w.heap.size < w1.heap.size := by have := hb1.size; simp at this; omega
  clear hb1 B1
  by_cases c0 : c = 0
  case neg =>
    have HR : Hid (¬ Right B) := fun r => c0 (hc.right.2 r)
    have t : (c != 0) = true := by simpa using c0
    clear hc bx c0 hd g' hs
    go_wp2
    go_ret
    exact ⟨⟨_, [], 0, rfl, Or.inl ⟨HR.out, rfl⟩, none, 0, rfl, fun h => absurd h (by simp)⟩, hbw1⟩
  have HR : Hid (Right B) := hc.right.1 c0
  subst c0
  clear hc
  have cx1 : w1.cell? ⟨w.heap.size, 1, none⟩ = some (.slice ao B.orders.length co) := by simp [World.cell?, bx]
  go_wp2
  clear cx1
  obtain ⟨O, hO⟩ : ∃ O, O = B.orders.length := ⟨_, rfl⟩
  have HO : Hid (O = B.orders.length) := hO
  rw [← hO] at ho hs hd g' ⊢
  clear hO bx
  go_loopw [3, 12] (fun u i wr => ∃ k : Nat, k ≤ O ∧ i = .int .i64 k ∧ wr.ownsRow w.heap.size 3 1 u (openTo (bX B) k).length ((openTo (bX B) k).map (Value.int .i64)) ∧ Below w.heap.size w wr) (fun _ i _ => O - (intOf i).toNat)
  case atStart => exact ⟨0, Nat.zero_le _, rfl, World.ownsRow_nil _ _ _ _, hbw1⟩
  case round =>
    rename_i u3 _
    obtain ⟨k, hk, rfl, hown, hb⟩ := hrel
    have hle := openTo_le (bX B) k
    by_cases hlt : k < O
    · obtain rfl := hd (by omega)
      obtain ⟨sa, sc, q⟩ := g' k hlt
      obtain ⟨x0, x1, x2, x3, x4⟩ := q.below hb
      clear q g' hs hd x4
      go_wp2_with fail
      refine (isOpen_any _ _ _ (bX B k).state _).mono ?_
      rintro e w2 ⟨hr, hb2⟩
      have st : Below wr.heap.size wr w2 := (below1 _ _).trans (hb2.mono (by simp))
      have hbw2 : Below w.heap.size w w2 := below_trans hb hb.size st
      have hown2 : w2.ownsRow w.heap.size 3 1 _ (openTo (bX B) k).length ((openTo (bX B) k).map (Value.int .i64)) := ownsRow_below hown st
      clear hb2 x0 x1 x2 x3 hb st hown
      rcases hr.cases with ⟨rfl, hp⟩ | ⟨rfl, hp⟩
      · have HP : Hid (openTo (bX B) (k + 1) = openTo (bX B) k ++ [(k : Int)]) := openTo_yes hp
        clear hp hr
        go_wp2_with (at_builtin; refine wpList_append_own _ rfl _ _ 37 rfl w.heap.size 3 i0 (.int .i64 0) 1 8 Try.underlying37 hi hz0 hz1 hz2 rfl (by decide) _ _ _ rfl (hown2.alloc _) ⟨w2.heap.size, 0, none⟩ 1 1 [.int .i64 (k : Int)] rfl rfl (cell_one_new _ _ _) (ints_oneCell .i64 [(k : Int)]) (by unfold maxLen; omega) (by omega) (by have := hbw2.size; simp; omega) ?_; intro v' w5 hown5 hgrow5 _)
        go_roundw
        case rel =>
          refine ⟨k + 1, by omega, by go_num, ?_, (hbw2.alloc hbw2.size _).grown hgrow5 (by have := hbw2.size; simp; omega) (fun j hj => ownBlock_low hown2 hj)⟩
          rw [HP.out]
          simpa using hown5
        case measure => simp [intOf]; omega
      · have HP : Hid (openTo (bX B) (k + 1) = openTo (bX B) k) := openTo_no hp
        clear hp hr
        go_wp2
        go_roundw
        case rel =>
          refine ⟨k + 1, by omega, by go_num, ?_, hbw2⟩
          rw [HP.out]
          exact hown2
        case measure => simp [intOf]; omega
    · obtain rfl : k = O := by omega
      have HW : Hid (wr.ownsRow w.heap.size 3 1 u3 (openTo (bX B) k).length ((openTo (bX B) k).map (Value.int .i64))) := hown
      clear g' hs hd hown
      go_wp2
      go_ret
      obtain ⟨gg, hgg⟩ := ownL_of HW.out
      exact ⟨⟨_, _, gg, rfl, Or.inr ⟨HR.out, by rw [← HO.out]⟩, hgg⟩, hb⟩

end Go.Proofs.Ytbgmgfnhmlpehaa
