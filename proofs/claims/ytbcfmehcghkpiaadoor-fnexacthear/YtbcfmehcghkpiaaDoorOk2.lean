/-
  The contracts of spec.l1list, spec.l1meet, impl.sectionListOk, impl.sizesOk, impl.orderOk. Mine, by template (wip/gen.py).
-/
import Derived.Test.YtbcfmehcghkpiaaDoorOk
namespace Go.Proofs.YtbcfmehcghkpiaaDoor
open Go.RowKit

/-- The first k stand in order. -/
def Asc (k : Nat) (V : Nat → Int) (lim : Int) : Prop := ∀ i, i < k → 0 ≤ V i ∧ V i ≤ lim - 1 ∧ (0 < i → V (i - 1) < V i)

theorem Asc.step {k : Nat} {V : Nat → Int} {lim : Int} (h : Asc k V lim) (h1 : 0 ≤ V k) (h2 : V k ≤ lim - 1) (h3 : 0 < k → V (k - 1) < V k) : Asc (k + 1) V lim := fun i hi => by
  by_cases e : i = k
  · subst e; exact ⟨h1, h2, h3⟩
  · exact h i (by omega)

set_option maxHeartbeats 400000 in
theorem l1list_any (ad : Option Addr) (c n : Nat) (V : Nat → Int) (lim : Int) (w : World) (hn : n ≤ 4294967296) (hl : -9223372036854775807 ≤ lim) (hl2 : lim ≤ 9223372036854775807) (G : Cells w ad n (fun i => .int .i64 (V i))) :
    Calls Tryd.prog 22 #[.slice ad n c, .int .i64 lim] w fun e w' => RetB e (ListOk n V lim) ∧ w' = w := by
  obtain ⟨b, o, hd, g⟩ := G
  go_enter Tryd.func22, Tryd.ntmps22
  go_wp2
  go_loop [9] (fun i => ∃ k : Nat, k ≤ n ∧ i = .int .i64 k ∧ Asc k V lim) (fun i => n - (intOf i).toNat)
  case atStart => exact ⟨0, Nat.zero_le _, rfl, fun j hj => absurd hj (by omega)⟩
  case round =>
    obtain ⟨k, hk, rfl, hall⟩ := hrel
    have HA : Hid (Asc k V lim) := hall
    clear hall
    by_cases hlt : k < n
    · obtain rfl := hd (by omega)
      have e1 := g k hlt
      have e0 : 0 < k → w.cell? ⟨b, o + (k - 1), none⟩ = some (.int .i64 (V (k - 1))) := fun hp => g (k - 1) (by omega)
      clear g hd
      go_wp2_with fail
      refine (l1in_any (V k) 0 (lim - 1) _).mono ?_
      rintro e w' ⟨hr, rfl⟩
      rcases hr.cases with ⟨rfl, hp⟩ | ⟨rfl, hp⟩
      · by_cases hk0 : 0 < k
        · have e2 := e0 hk0
          have tk : ((k : Int) - 1).toNat = k - 1 := by omega
          have k1 : (0 : Int) ≤ (k : Int) - 1 := by omega
          have k2 : (k : Int) - 1 < (n : Int) := by omega
          have HP : Hid (In (V k) 0 (lim - 1)) := hp
          clear e0 hp hr
          by_cases h3 : V k ≤ V (k - 1)
          · go_wp2
            go_ret
            exact ⟨RetB.f (fun q => by have := (q.1 k hlt).2.2 hk0; omega), rfl⟩
          · go_wp2
            go_round
            case rel => exact ⟨k + 1, by omega, by go_num, HA.out.step HP.out.1 HP.out.2 (fun _ => by omega)⟩
            case measure => simp [intOf]; omega
        · have HP : Hid (In (V k) 0 (lim - 1)) := hp
          clear e0 hp hr
          obtain rfl : k = 0 := by omega
          go_wp2
          go_round
          case rel => exact ⟨0 + 1, by omega, by go_num, HA.out.step HP.out.1 HP.out.2 (fun h => absurd h (by omega))⟩
          case measure => simp [intOf]; omega
      · have HP : Hid (¬ In (V k) 0 (lim - 1)) := hp
        clear e0 hp hr
        go_wp2
        go_ret
        exact ⟨RetB.f (fun q => HP.out ⟨(q.1 k hlt).1, (q.1 k hlt).2.1⟩), rfl⟩
    · obtain rfl : k = n := by omega
      clear g hd
      go_wp2_with fail
      refine (l1in_any k 1 20 _).mono ?_
      rintro e w' ⟨hr, rfl⟩
      rcases hr.cases with ⟨rfl, hp⟩ | ⟨rfl, hp⟩
      · have HP : Hid (In (k : Int) 1 20) := hp
        clear hp hr
        go_wp2
        go_ret
        exact ⟨RetB.t ⟨HA.out, by have := HP.out.1; omega, by have := HP.out.2; omega⟩, rfl⟩
      · have HP : Hid (¬ In (k : Int) 1 20) := hp
        clear hp hr
        go_wp2
        go_ret
        exact ⟨RetB.f (fun q => HP.out ⟨by have := q.2.1; omega, by have := q.2.2; omega⟩), rfl⟩

set_option maxHeartbeats 400000 in
theorem sectionListOk_any (ad : Option Addr) (c n : Nat) (V : Nat → Int) (lim : Int) (w : World) (hn : n ≤ 4294967296) (G : Cells w ad n (fun i => .int .i64 (V i))) :
    Calls Tryd.prog 39 #[.slice ad n c, .int .i64 lim] w fun e w' => RetB e (ListOk n V lim) ∧ w' = w := by
  obtain ⟨b, o, hd, g⟩ := G
  by_cases h1 : 1 ≤ n
  · by_cases h2 : n ≤ 20
    · have t1 : decide ((n : Int) < 1) = false := by simp; omega
      have t2 : decide (20 < (n : Int)) = false := by simp; omega
      go_enter Tryd.func39, Tryd.ntmps39
      go_wp2
      clear t1 t2
      go_loop [5, 18] (fun l i => ∃ (k : Nat) (last : Int), k ≤ n ∧ i = .int .i64 k ∧ l = .int .i64 last ∧ (k = 0 → last = -1) ∧ (0 < k → last = V (k - 1)) ∧ Asc k V lim) (fun _ i => n - (intOf i).toNat)
      case atStart => exact ⟨0, -1, Nat.zero_le _, rfl, rfl, fun _ => rfl, fun h => absurd h (by omega), fun j hj => absurd hj (by omega)⟩
      case round =>
        obtain ⟨k, last, hk, rfl, rfl, l0, l1, hall⟩ := hrel
        have HA : Hid (Asc k V lim ∧ (k = 0 → last = -1) ∧ (0 < k → last = V (k - 1))) := ⟨hall, l0, l1⟩
        clear hall l0 l1
        by_cases hlt : k < n
        · obtain rfl := hd (by omega)
          have e1 := g k hlt
          clear g hd
          by_cases g1 : V k ≤ last
          · go_wp2
            go_ret
            refine ⟨RetB.f (fun q => ?_), rfl⟩
            have q1 := q.1 k hlt
            obtain ⟨_, u1, u2⟩ := HA.out
            by_cases k0 : k = 0
            · have := u1 k0; omega
            · have := u2 (by omega); have := q1.2.2 (by omega); omega
          · by_cases g2 : lim ≤ V k
            · go_wp2
              go_ret
              exact ⟨RetB.f (fun q => by have := (q.1 k hlt).2.1; omega), rfl⟩
            · go_wp2
              go_round
              case rel =>
                refine ⟨k + 1, V k, by omega, by go_num, rfl, fun h => absurd h (by omega), fun _ => rfl, ?_⟩
                obtain ⟨u0, u1, u2⟩ := HA.out
                refine u0.step ?_ (by omega) (fun hp => by have := u2 hp; omega)
                by_cases k0 : k = 0
                · have := u1 k0; omega
                · have := u2 (by omega); have := (u0 (k - 1) (by omega)).1; omega
              case measure => simp [intOf]; omega
        · obtain rfl : k = n := by omega
          clear g hd
          go_wp2
          go_ret
          exact ⟨RetB.t ⟨HA.out.1, h1, h2⟩, rfl⟩
    · clear g hd
      go_enter Tryd.func39, Tryd.ntmps39
      go_wp2
      go_ret
      exact ⟨RetB.f (fun q => by have := q.2.2; omega), rfl⟩
  · clear g hd
    go_enter Tryd.func39, Tryd.ntmps39
    go_wp2
    go_ret
    exact ⟨RetB.f (fun q => by have := q.2.1; omega), rfl⟩

/-- The sizes of a book. -/
def SizesOk (B : Bk) : Prop := In B.n 1 60 ∧ (B.locked.length : Int) = B.n ∧ (B.occ.length : Int) = B.n ∧ B.orders.length ≤ 200

end Go.Proofs.YtbcfmehcghkpiaaDoor
