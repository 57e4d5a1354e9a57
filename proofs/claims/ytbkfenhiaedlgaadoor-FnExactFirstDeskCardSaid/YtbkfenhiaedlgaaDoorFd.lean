/- FirstDesk of the model and of the program. -/
import Derived.Test.YtbkfenhiaedlgaaDoorPcS
import Derived.Test.YtbkfenhiaedlgaaDoorOne
import Derived.Test.YtbkfenhiaedlgaaDoorDk
set_option linter.all false
namespace Go.Proofs.YtbkfenhiaedlgaaDoor
open Go.RowKit

theorem own_set6 {w : World} {b base : Nat} {e : TypeId} {size n : Nat} {v : Value} {xs : List Value} (h : w.ownsRow base e size v n xs) (hb : b < base) (v0 v1 v2 v3 v4 v5 : Value) :
    ((((((w.setCell ⟨b, 0, none⟩ v0).setCell ⟨b, 1, none⟩ v1).setCell ⟨b, 2, none⟩ v2).setCell ⟨b, 3, none⟩ v3).setCell ⟨b, 4, none⟩ v4).setCell ⟨b, 5, none⟩ v5).ownsRow base e size v n xs :=
  ownsRow_setCell_below (ownsRow_setCell_below (ownsRow_setCell_below (ownsRow_setCell_below (ownsRow_setCell_below (ownsRow_setCell_below h (show b < base from hb) _) (show b < base from hb) _) (show b < base from hb) _) (show b < base from hb) _) (show b < base from hb) _) (show b < base from hb) _
theorem below_set6 {b : Nat} {w w' : World} (h : Below b w w') (v0 v1 v2 v3 v4 v5 : Value) :
    Below b w ((((((w'.setCell ⟨b, 0, none⟩ v0).setCell ⟨b, 1, none⟩ v1).setCell ⟨b, 2, none⟩ v2).setCell ⟨b, 3, none⟩ v3).setCell ⟨b, 4, none⟩ v4).setCell ⟨b, 5, none⟩ v5) :=
  (((((h.setCell (p := ⟨b, 0, none⟩) (Nat.le_refl _) v0).setCell (p := ⟨b, 1, none⟩) (Nat.le_refl _) v1).setCell (p := ⟨b, 2, none⟩) (Nat.le_refl _) v2).setCell (p := ⟨b, 3, none⟩) (Nat.le_refl _) v3).setCell (p := ⟨b, 4, none⟩) (Nat.le_refl _) v4).setCell (p := ⟨b, 5, none⟩) (Nat.le_refl _) v5
theorem Dx.set6 {B : Nat} {w : World} {X Y : Int} {A : Option Addr} {n c : Nat} {X' Y' : Int} {A' : Option Addr} {n' c' : Nat} (h : Dx B w X Y A n c X' Y' A' n' c') (U V : Int) (S : Option Addr) (u d : Nat) (U' V' : Int) (S' : Option Addr) (u' d' : Nat) :
    Dx B ((((((w.setCell ⟨B, 0, none⟩ (.int .i64 U)).setCell ⟨B, 1, none⟩ (.int .i64 V)).setCell ⟨B, 2, none⟩ (.slice S u d)).setCell ⟨B, 3, none⟩ (.int .i64 U')).setCell ⟨B, 4, none⟩ (.int .i64 V')).setCell ⟨B, 5, none⟩ (.slice S' u' d')) U V S u d U' V' S' u' d' := by
  obtain ⟨l, a0, a1, a2, a3, a4, a5⟩ := h
  refine ⟨by simpa using l, ?_, ?_, ?_, ?_, ?_, ?_⟩ <;> simp [go_sem, a0, a1, a2, a3, a4, a5]
def fdL : List Sq := [⟨0, 0, 2⟩, ⟨2, 0, 1⟩, ⟨2, 1, 1⟩]
def fdK : List Sq := [⟨0, 0, 1⟩]
def fdT : List UInt8 := [51, 120, 50, 59, 48, 44, 48, 44, 50, 59, 50, 44, 48, 44, 49, 59, 50, 44, 49, 44, 49]
theorem fd_good : Good 3 2 fdL := by
  refine ⟨by omega, by omega, by simp [fdL], ?_, by simp [fdL, area]⟩
  intro j q h
  match j, h with
  | 0, h =>
    simp [fdL] at h; subst h
    exact ⟨by simp [Within], by simp, fun i p hi _ => absurd hi (by omega), fun p hj => absurd hj (by omega)⟩
  | 1, h =>
    simp [fdL] at h; subst h
    refine ⟨by simp [Within], by simp, fun i p hi hp => ?_, fun p _ hp => ?_⟩
    · obtain rfl : i = 0 := by omega
      simp [fdL] at hp; subst hp; simp [Over]
    · simp [fdL] at hp; subst hp; simp [Less]
  | 2, h =>
    simp [fdL] at h; subst h
    refine ⟨by simp [Within], by simp, fun i p hi hp => ?_, fun p _ hp => ?_⟩
    · rcases (by omega : i = 0 ∨ i = 1) with rfl | rfl
      · simp [fdL] at hp; subst hp; simp [Over]
      · simp [fdL] at hp; subst hp; simp [Over]
    · simp [fdL] at hp; subst hp; simp [Less]
  | k + 3, h => simp [fdL] at h
theorem dec_0 : dec 0 = [48] := by rw [dec_small (by omega)]; rfl
theorem dec_1 : dec 1 = [49] := by rw [dec_small (by omega)]; rfl
theorem dec_2 : dec 2 = [50] := by rw [dec_small (by omega)]; rfl
theorem dec_3 : dec 3 = [51] := by rw [dec_small (by omega)]; rfl
theorem fd_text : txC (3 : Int).toNat (2 : Int).toNat fdL = fdT := by
  have e3 : (3 : Int).toNat = 3 := rfl
  have e2 : (2 : Int).toNat = 2 := rfl
  have e1 : (1 : Int).toNat = 1 := rfl
  have e0 : (0 : Int).toNat = 0 := rfl
  simp [txC, txQ, fdL, fdT, dec_0, dec_1, dec_2, dec_3, e0, e1, e2, e3]
theorem str_fd : (⟨#[51, 120, 50, 59, 48, 44, 48, 44, 50, 59, 50, 44, 48, 44, 49, 59, 50, 44, 49, 44, 49]⟩ : ByteArray) = bas fdT := rfl
theorem fd_parse (w : World) (hS : StrOk w) : Calls Tryd.prog 17 #[.string ⟨#[51, 120, 50, 59, 48, 44, 48, 44, 50, 59, 50, 44, 48, 44, 49, 59, 50, 44, 49, 44, 49]⟩] w (RetPv w 3 2 fdL true) := by
  rw [str_fd]
  refine (implPc_any fdT (by decide) w hS).mono fun e w' h => ?_
  have h := h.v
  rw [pcV_yes fd_good fd_text] at h
  exact h
theorem fd_one (w : World) : Calls Tryd.prog 92 #[.int .i64 1] w (RetPv w 1 1 fdK true) := by
  have h := implOne_any 1 w
  unfold RetOne at h
  rw [oneW_yes (by omega), oneL_yes (by omega), dc_true (by omega)] at h
  exact h
/-- What FirstDesk returns. -/
def RetFd (w : World) (e : Ending) (w' : World) : Prop :=
  ∃ A c A' c', e = .returned (.agg #[.int .i64 3, .int .i64 2, .slice A fdL.length c, .int .i64 1, .int .i64 1, .slice A' fdK.length c']) ∧ w'.ownsRow w.heap.size 85 3 (.slice A fdL.length c) fdL.length (flat fdL) ∧ w'.ownsRow w.heap.size 85 3 (.slice A' fdK.length c') fdK.length (flat fdK) ∧
    (∀ k, (Value.slice A fdL.length c).ownBlock = some k → (Value.slice A' fdK.length c').ownBlock ≠ some k) ∧ Below w.heap.size w w'
set_option maxRecDepth 100000 in
set_option maxHeartbeats 4000000 in
theorem implFd_any (w : World) (hS : StrOk w) : Calls Tryd.prog 44 #[] w (RetFd w) := by
  have D0 := Dx.start w 0 0 none 0 0 0 0 none 0 0 73
  have B0 : Below w.heap.size w (w.alloc (.cells #[.int .i64 0, .int .i64 0, .slice none 0 0, .int .i64 0, .int .i64 0, .slice none 0 0] 73)) := (Below.refl _ _).alloc (Nat.le_refl _) _
  have C1 := Lib.hid (fd_parse _ (hS.below B0))
  have C2 := Lib.hid fd_one
  obtain ⟨N, hN⟩ : ∃ N, fdL.length = N := ⟨_, rfl⟩
  obtain ⟨M, hM⟩ : ∃ M, fdK.length = M := ⟨_, rfl⟩
  unfold RetPv at C1 C2
  rw [hN] at C1
  rw [hM] at C2
  unfold RetFd
  rw [hN, hM]
  have HN := Lib.hid hN
  have HM := Lib.hid hM
  clear hN hM
  go_enter Tryd.func44, Tryd.ntmps44
  go_wp2_with fail
  (with_reducible refine C1.out.mono ?_)
  rintro e w2 ⟨A, c, rfl, o2, hb2⟩
  have B2 := B0.trans (hb2.mono B0.size)
  have D2 := D0.next hb2
  have F2 : ∀ o, w2.frozen? ⟨w.heap.size, o, none⟩ = false := fun o => (hb2.frozen (p := ⟨w.heap.size, o, none⟩) D0.lt).trans (by simp)
  have hl2 := D2.lt
  clear C1 D0 B0 hb2
  go_wp2_with fail
  (with_reducible refine (C2.out _).mono ?_)
  rintro e w4 ⟨A', c', rfl, o4, hb4⟩
  obtain ⟨w3, hw3⟩ : ∃ w3, w3 = w2.alloc (.cells #[.int .i64 3, .int .i64 2, .slice A N c] 30) := ⟨_, rfl⟩
  rw [← hw3] at o4 hb4
  have hb3 : Below w2.heap.size w2 w3 := by rw [hw3]; exact (Below.refl _ _).alloc (Nat.le_refl _) _
  have b3 : Bx w2.heap.size w3 3 2 A N c := by rw [hw3]; exact Bx.start _ _ _ _ _ _ _
  have D4 := (D2.next hb3).next hb4
  have F4 : ∀ o, w4.frozen? ⟨w.heap.size, o, none⟩ = false := fun o => (hb4.frozen (p := ⟨w.heap.size, o, none⟩) (D2.next hb3).lt).trans ((hb3.frozen (p := ⟨w.heap.size, o, none⟩) D2.lt).trans (F2 o))
  have b4 := b3.next hb4
  have B3 := B2.trans (hb3.mono B2.size)
  have B4 := B3.trans (hb4.mono B3.size)
  have o24 := own_keep (own_keep o2 hb3) hb4
  have hdis : ∀ k, (Value.slice A N c).ownBlock = some k → (Value.slice A' M c').ownBlock ≠ some k := fun k hk e => by
    have h1 := (o2.lt k hk).2
    have h2 := (o4.lt k e).1
    have := hb3.size
    omega
  have O2 := Lib.hid o24
  have O4 := Lib.hid o4
  have HD := Lib.hid hdis
  have hl3 := b3.lt
  have hs4 := hb4.size
  obtain ⟨l0, a0, a1, a2, a3, a4, a5⟩ := id D4
  obtain ⟨l1, b0, b1, b2⟩ := id b4
  have f0 := F4 0
  have f1 := F4 1
  have f2 := F4 2
  have f3 := F4 3
  have f4 := F4 4
  have f5 := F4 5
  have s2 := B2.size
  have hw2 : w.heap.size < w2.heap.size := D2.lt
  have s3 : w2.heap.size ≤ w3.heap.size := hb3.size
  clear C2 hw3 o2 o4 hb3 hb4 b3 b4 D2 F2 hdis o24 F4 hl2
  go_wp2_with fail
  have al : ∀ (u : World) (o : Obj), Below u.heap.size u (u.alloc o) := fun u o => (Below.refl _ _).alloc (Nat.le_refl _) o
  obtain ⟨_, e0, e1, e2, e3, e4, e5⟩ := (Dx.set6 D4 3 2 A N c 1 1 A' M c').next (al _ (.cells #[.int .i64 1, .int .i64 1, .slice A' M c'] 30))
  refine bodyPost_ret (v := .agg #[.int .i64 3, .int .i64 2, .slice A N c, .int .i64 1, .int .i64 1, .slice A' M c']) (by simp [results, Tryd.results44, go_sem, e0, e1, e2, e3, e4, e5]) rfl ?_
  exact ⟨A, c, A', c', rfl, own_keep (own_base (own_set6 O2.out (by simp) _ _ _ _ _ _) (by simp)) (al _ _), own_keep (own_base (own_set6 O4.out (by omega) _ _ _ _ _ _) (by omega)) (al _ _), HD.out, (below_set6 B4 _ _ _ _ _ _).trans ((al _ _).mono (by simpa using B4.size))⟩
set_option maxRecDepth 100000 in
set_option maxHeartbeats 4000000 in
theorem specFd_any (w : World) : Calls Tryd.prog 43 #[] w (RetFd w) := by
  have B0 : Below w.heap.size w (w.alloc (.cells #[.int .i64 3, .int .i64 2, .slice (some ⟨w.heap.size + 1, 0, none⟩) 3 3, .int .i64 1, .int .i64 1, .slice (some ⟨w.heap.size + 1 + 1 + 1, 0, none⟩) 1 1] 73)) := (Below.refl _ _).alloc (Nat.le_refl _) _
  unfold RetFd
  go_enter Tryd.func43, Tryd.ntmps43
  go_wp2_with fail
  have al : ∀ (u : World) (o : Obj), Below u.heap.size u (u.alloc o) := fun u o => (Below.refl _ _).alloc (Nat.le_refl _) o
  refine bodyPost_ret (v := .agg #[.int .i64 3, .int .i64 2, .slice (some ⟨w.heap.size + 1, 0, none⟩) 3 3, .int .i64 1, .int .i64 1, .slice (some ⟨w.heap.size + 1 + 1 + 1, 0, none⟩) 1 1]) (by simp [results, Tryd.results43, go_sem]) rfl ?_
  refine ⟨_, 3, _, 1, rfl, ?_, ?_, fun k hk e => ?_, (((B0).alloc (by simp) _).alloc (by simp <;> omega) _).alloc (by simp <;> omega) _⟩
  · have h := World.ownsRow_lit (base := w.heap.size) (e := 85) (size := 3) (w.alloc (.cells #[.int .i64 3, .int .i64 2, .slice (some ⟨w.heap.size + 1, 0, none⟩) 3 3, .int .i64 1, .int .i64 1, .slice (some ⟨w.heap.size + 1 + 1 + 1, 0, none⟩) 1 1] 73)) #[.int .i64 0, .int .i64 0, .int .i64 2, .int .i64 2, .int .i64 0, .int .i64 1, .int .i64 2, .int .i64 1, .int .i64 1] 3 (by simp) (by decide) rfl
    refine own_keep (own_keep ?_ (al _ _)) (al _ _)
    simpa [flat, fdL] using h
  · have h := World.ownsRow_lit (base := w.heap.size) (e := 85) (size := 3) (((w.alloc (.cells #[.int .i64 3, .int .i64 2, .slice (some ⟨w.heap.size + 1, 0, none⟩) 3 3, .int .i64 1, .int .i64 1, .slice (some ⟨w.heap.size + 1 + 1 + 1, 0, none⟩) 1 1] 73)).alloc (.cells #[.int .i64 0, .int .i64 0, .int .i64 2, .int .i64 2, .int .i64 0, .int .i64 1, .int .i64 2, .int .i64 1, .int .i64 1] 85)).alloc (.cells #[.int .i64 3, .int .i64 2, .slice (some ⟨w.heap.size + 1, 0, none⟩) 3 3] 30)) #[.int .i64 0, .int .i64 0, .int .i64 1] 1 (by simp <;> omega) (by decide) rfl
    simpa [flat, fdK] using h
  · simp [Value.ownBlock] at hk e
    omega
end Go.Proofs.YtbkfenhiaedlgaaDoor
