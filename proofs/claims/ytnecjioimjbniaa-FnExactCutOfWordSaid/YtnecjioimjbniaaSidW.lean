/- SidesOfWord: the program's and the model's. -/
import Derived.Test.YtnecjioimjbniaaWrd
namespace Go.Proofs.Ytnecjioimjbniaa
open Go.RowKit

def SidOk (s : ByteArray) : Prop := WordG (wcs s) ∧ ∀ q ∈ putQ s, q.d ≤ 1000
noncomputable def sidL (s : ByteArray) : List Int := if dc (SidOk s) then sides (putQ s) else []
theorem sidL_yes {s : ByteArray} (h : SidOk s) : sidL s = sides (putQ s) := by simp [sidL, dc_true h]
theorem sidL_no {s : ByteArray} (h : ¬ SidOk s) : sidL s = [] := by simp [sidL, dc_false h]
theorem putQ_bnd {s : ByteArray} (h : WordG (wcs s)) : (1 ≤ (putQ s).length ∧ (putQ s).length ≤ 21) ∧ ∀ q ∈ putQ s, (0 ≤ q.x ∧ q.x ≤ 1048576) ∧ (0 ≤ q.y ∧ q.y ≤ 1048576) ∧ 1 ≤ q.d ∧ q.d ≤ 1048576 := by
  have e := (put_yes h).2.2
  rw [e, putF_length]
  have := h.1
  exact ⟨by omega, (putF_bnd h.1).2.2⟩
theorem le_take_succ {Q : List Sq} {k : Nat} {q : Sq} (h : Q[k]? = some q) (hq : q.d ≤ 1000) (ha : ∀ p ∈ Q.take k, p.d ≤ 1000) : ∀ p ∈ Q.take (k + 1), p.d ≤ 1000 := by
  intro p hp
  rw [List.take_add_one, h] at hp
  simp only [Option.toList_some, List.mem_append, List.mem_singleton] at hp
  rcases hp with hp | rfl
  · exact ha p hp
  · exact hq

set_option maxRecDepth 100000 in
set_option maxHeartbeats 4000000 in
theorem specSidW_any (s : ByteArray) (w : World) (hs : s.size ≤ 1048576) : Calls Try.prog 19 #[.string s] w (RetInts w (sidL s) (dc (SidOk s))) := by
  have hw := raWord_any s w hs
  obtain ⟨i0, hi, hz0, hz1, hz2⟩ := info_parts infoInt
  by_cases h : WordG (wcs s)
  · rw [dc_true h] at hw
    have hr := raSquares_any s w h
    rw [← (put_yes h).2.2] at hr
    obtain ⟨hl21, hbd⟩ := putQ_bnd h
    obtain ⟨Q, hQ⟩ : ∃ Q, putQ s = Q := ⟨_, rfl⟩
    rw [hQ] at hr hl21 hbd
    have HR := Lib.hid hr
    have HBD := Lib.hid hbd
    have HSO : Hid (SidOk s ↔ ∀ q ∈ Q, q.d ≤ 1000) := by
      show SidOk s ↔ ∀ q ∈ Q, q.d ≤ 1000
      unfold SidOk
      rw [hQ]
      exact ⟨fun x => x.2, fun x => ⟨h, x⟩⟩
    have HQ := Lib.hid hQ
    clear hr hbd hQ
    go_enter Try.func19, Try.ntmps19
    go_wp2_with fail
    refine hw.mono ?_
    rintro e w' ⟨rfl, rfl⟩
    go_wp2_with fail
    refine HR.out.mono ?_
    rintro e w1 ⟨A, n, c, rfl, rfl, ho, hb1⟩
    have hL := sqs_of_own ho
    have hL := hL
    clear ho hw
    go_wp2_with fail
    go_loopw [4, 13] (fun v i wr => ∃ k : Nat, k ≤ Q.length ∧ i = .int .i64 k ∧ Below w1.heap.size w1 wr ∧ w1.heap.size ≤ wr.heap.size ∧ wr.ownsRow w1.heap.size 3 1 v k (ints (sides (Q.take k))) ∧ ∀ q ∈ Q.take k, q.d ≤ 1000) (fun _ i _ => Q.length - (intOf i).toNat)
    case atStart => exact ⟨0, Nat.zero_le _, rfl, Below.refl _ _, Nat.le_refl _, World.ownsRow_nil _ _ _ _, fun q hq => by simp at hq⟩
    case round =>
      obtain ⟨k, hk, rfl, hbr, hzr, hown, hall⟩ := hrel
      have HALL := Lib.hid hall
      clear hall
      by_cases hlt : k < Q.length
      · obtain ⟨q, hq⟩ : ∃ q, Q[k]? = some q := ⟨_, List.getElem?_eq_getElem hlt⟩
        obtain ⟨b, off, rfl, hb, c0, c1, c2⟩ := (hL.below hbr) k q hq
        have HS := Lib.hid hq
        clear hq hL
        by_cases hd : q.d ≤ 1000
        · go_wp2_with (at_builtin; refine wpList_append_own _ rfl _ _ 32 rfl w1.heap.size 3 i0 (.int .i64 0) 1 8 Try.underlying32 hi hz0 hz1 hz2 rfl (by decide) _ _ _ rfl ((hown.alloc _).alloc _) ⟨wr.heap.size + 1, 0, none⟩ 1 1 [.int .i64 q.d] rfl rfl ?c1 ?c2 ?c3 ?c4 ?c5 ?_)
          case c1 =>
            intro j u hj
            match j, hj with
            | 0, hj => simp at hj; subst hj; simp [Addr.add]
          case c2 => intro u hu; simp at hu; subst hu; rfl
          case c3 => unfold maxLen; omega
          case c4 => omega
          case c5 => simp <;> omega
          intro v' w2 hown2 hgrow _
          have hB2 : Below w1.heap.size w1 w2 := ((hbr.alloc (by omega) _).alloc (by simp <;> omega) _).grown hgrow (by simp <;> omega) (fun k hk => (hown.lt k hk).1)
          have hZ2 : w1.heap.size ≤ w2.heap.size := by have := hgrow.size; simp at this; omega
          have HO : Hid (w2.ownsRow w1.heap.size 3 1 v' (k + 1) (ints (sides (Q.take (k + 1))))) := by
            show w2.ownsRow _ _ _ _ _ _
            rw [sides_take_succ Q k q HS.out, ints_app]
            exact hown2
          have HA2 := Lib.hid (le_take_succ HS.out hd HALL.out)
          clear hown hown2 hgrow
          go_wp2_with fail
          go_roundw
          case rel => exact ⟨k + 1, by omega, by go_num, hB2, hZ2, HO.out, HA2.out⟩
          case measure => simp [intOf]; omega
        · have hd' : 1000 < q.d := by omega
          have hno : ¬ SidOk s := fun x => hd (HSO.out.1 x q (List.mem_of_getElem? HS.out))
          have hBB := hb1.trans (hbr.mono hb1.size)
          have hzz := hbr.size
          have HN := Lib.hid hno
          clear hd hno
          go_wp2_with fail
          go_ret2
          rw [sidL_no HN.out, dc_false HN.out]
          exact RetInts.none_ (hBB.alloc (by have := hb1.size; omega) _)
      · obtain rfl : k = Q.length := by omega
        have hall := HALL.out
        rw [List.take_of_length_le (Nat.le_refl _)] at hown hall
        obtain ⟨A', c', rfl⟩ := own_val hown
        have hyes : SidOk s := HSO.out.2 hall
        have HY := Lib.hid hyes
        clear hyes hall
        go_wp2_with fail
        go_ret2
        rw [sidL_yes HY.out, dc_true HY.out, HQ.out]
        exact RetInts.mk (sides_len Q).symm (own_base hown hb1.size) (hb1.trans (hbr.mono hb1.size))
  · have hno : ¬ SidOk s := fun x => h x.1
    rw [dc_false h] at hw
    rw [sidL_no hno, dc_false hno]
    clear hno
    go_enter Try.func19, Try.ntmps19
    go_wp2_with fail
    refine hw.mono ?_
    rintro e w' ⟨rfl, rfl⟩
    go_wp2_with fail
    go_ret2
    exact RetInts.none_ (Below.refl _ _)

set_option maxRecDepth 100000 in
set_option maxHeartbeats 4000000 in
theorem implSidW_any (s : ByteArray) (w : World) (hs : s.size ≤ 1048576) : Calls Try.prog 20 #[.string s] w (RetInts w (sidL s) (dc (SidOk s))) := by
  have hp := putOn_any s w hs
  obtain ⟨i0, hi, hz0, hz1, hz2⟩ := info_parts infoInt
  by_cases h : WordG (wcs s)
  · obtain ⟨hl21, hbd⟩ := putQ_bnd h
    unfold RetPut at hp
    rw [dc_true h] at hp
    obtain ⟨Q, hQ⟩ : ∃ Q, putQ s = Q := ⟨_, rfl⟩
    rw [hQ] at hp hl21 hbd
    have HSO : Hid (SidOk s ↔ ∀ q ∈ Q, q.d ≤ 1000) := by
      show SidOk s ↔ ∀ q ∈ Q, q.d ≤ 1000
      unfold SidOk
      rw [hQ]
      exact ⟨fun x => x.2, fun x => ⟨h, x⟩⟩
    have HQ := Lib.hid hQ
    have HP := Lib.hid hp
    clear hp hbd hQ
    go_enter Try.func20, Try.ntmps20
    go_wp2_with fail
    refine HP.out.mono ?_
    rintro e w1 ⟨A, c, rfl, ho, hb1⟩
    have hn1 : (0 : Int) ≤ (Q.length : Int) := by omega
    obtain ⟨W1, hW1⟩ : ∃ W1, W1 = w1.alloc (.cells #[.int .i64 (putA s), .int .i64 (putB s), .slice A Q.length c] 27) := ⟨_, rfl⟩
    have b1 : Below w1.heap.size w1 W1 := by rw [hW1]; exact (Below.refl _ _).alloc (Nat.le_refl _) _
    have hz1s : W1.heap.size = w1.heap.size + 1 := by rw [hW1]; simp
    have e2 : W1.cell? ⟨w1.heap.size, 2, none⟩ = some (.slice A Q.length c) := by rw [hW1]; simp
    have hL := (sqs_of_own ho).below b1
    have hb0 := hb1.trans (b1.mono hb1.size)
    have hcap : Q.length ≤ c := own_cap ho
    go_wp2_with (at_make; refine wpList_make_full _ rfl _ _ 32 rfl W1.heap.size 3 i0 (.int .i64 0) 1 Try.underlying32 hi hz0 hz1 .i64 .i64 Q.length Q.length Q.length rfl rfl rfl rfl (by rw [hz2]; omega) (by unfold maxLen; omega) (by rw [hW1]; exact Nat.le_refl _) ?_; intro w2 hown hgrow; have hb2 : Below W1.heap.size W1 w2 := (Below.refl _ W1).grown (by rw [hW1]; exact hgrow) (Nat.le_refl _) (by simp); have d2 := (hb2.cell (p := ⟨w1.heap.size, 2, none⟩) (by simp only; omega)).trans e2)
    have hB2 := hb0.trans (hb2.mono hb0.size)
    have hL2 := hL.below (hb2.mono (by omega))
    obtain ⟨g, hg⟩ : ∃ g, g = w1.heap.size + 1 := ⟨_, rfl⟩
    rw [← hW1] at hown hgrow
    rw [hz1s, ← hg] at hown
    rw [← hg]
    have hg1 : w1.heap.size + 1 ≤ g := by omega
    clear hgrow hb2 hW1 hL ho d2 e2 b1 hg
    have hws := hb1.size
    go_loopw [23] (fun i wr => ∃ k : Nat, k ≤ Q.length ∧ i = .int .i64 k ∧ Below (w1.heap.size + 1) w2 wr ∧ ∃ xs, wr.ownsRow g 3 1 (.slice (some ⟨g, 0, none⟩) Q.length Q.length) Q.length xs ∧ xs.take k = ints (sides (Q.take k)) ∧ ∀ q ∈ Q.take k, q.d ≤ 1000) (fun i _ => Q.length - (intOf i).toNat)
    case atStart => exact ⟨0, Nat.zero_le _, rfl, Below.refl _ _, _, hown, by simp [ints, sides], fun q hq => by simp at hq⟩
    case round =>
      obtain ⟨k, hk, rfl, hbr, xs, hown1, htake, hall⟩ := hrel
      have HALL := Lib.hid hall
      have HT := Lib.hid htake
      clear hall htake
      by_cases hlt : k < Q.length
      · obtain ⟨q, hq⟩ : ∃ q, Q[k]? = some q := ⟨_, List.getElem?_eq_getElem hlt⟩
        obtain ⟨b, off, rfl, hb, c0, c1, c2⟩ := (hL2.below (hbr.mono (by omega))) k q hq
        have HS := Lib.hid hq
        clear hq
        by_cases hd : q.d ≤ 1000
        · have hgl := (own_lt hown1).2
          obtain ⟨v0, e0⟩ := own_some hown1 (j := k) (by omega)
          have f0 := hown1.frozenAt k
          have hx := hown1.1
          have HA2 := Lib.hid (le_take_succ HS.out hd HALL.out)
          have k0 : (0 : Int) ≤ (k : Int) := by omega
          have k1 : (k : Int) < (Q.length : Int) := by omega
          clear hown
          go_wp2_with fail
          have R := fun o : Obj => ((hown1.alloc o).stored k (.int .i64 q.d)).1
          have hB3 := fun o : Obj => (hbr.alloc (by have := hbr.size; omega) o).setCell (p := ⟨g, k, none⟩) (by simp; omega) (.int .i64 q.d)
          have R' := fun o : Obj => (hown1.stored k (.int .i64 q.d)).1.alloc o
          have hB3' := fun o : Obj => (hbr.setCell (p := ⟨g, k, none⟩) (by simp; omega) (.int .i64 q.d)).alloc (by simp; have := hbr.size; omega) o
          have HR := Lib.hid R
          have HB := Lib.hid hB3
          have HR' := Lib.hid R'
          have HB' := Lib.hid hB3'
          clear R hB3 R' hB3' hown1
          go_roundw
          case rel =>
            first
              | exact ⟨k + 1, by omega, by go_num, HB'.out _, _, HR'.out _, by rw [take_set1 _ _ _ (by omega), HT.out, sides_take_succ Q k q HS.out, ints_app]; rfl, HA2.out⟩
              | exact ⟨k + 1, by omega, by go_num, HB.out _, _, HR.out _, by rw [take_set1 _ _ _ (by omega), HT.out, sides_take_succ Q k q HS.out, ints_app]; rfl, HA2.out⟩
          case measure => simp [intOf]; omega
        · have hd' : 1000 < q.d := by omega
          have hno : ¬ SidOk s := fun x => hd (HSO.out.1 x q (List.mem_of_getElem? HS.out))
          have hBB := hB2.trans (hbr.mono (by omega))
          have hzz := hbr.size
          have HN := Lib.hid hno
          have k0 : (0 : Int) ≤ (k : Int) := by omega
          have k1 : (k : Int) < (Q.length : Int) := by omega
          clear hd hno
          go_wp2_with fail
          go_ret2
          rw [sidL_no HN.out, dc_false HN.out]
          exact RetInts.none_ (hBB.alloc (by have := hB2.size; omega) _)
      · obtain rfl : k = Q.length := by omega
        have hall := HALL.out
        have htake := HT.out
        have hx := hown1.1
        rw [List.take_of_length_le (by omega), List.take_of_length_le (Nat.le_refl _)] at htake
        rw [List.take_of_length_le (Nat.le_refl _)] at hall
        subst htake
        have hyes : SidOk s := HSO.out.2 hall
        have HY := Lib.hid hyes
        clear hyes hall
        go_wp2_with fail
        go_ret2
        rw [sidL_yes HY.out, dc_true HY.out, HQ.out]
        exact RetInts.mk (sides_len Q).symm (own_base hown1 (by omega)) (hB2.trans (hbr.mono (by omega)))
  · have hno : ¬ SidOk s := fun x => h x.1
    unfold RetPut at hp
    rw [dc_false h] at hp
    rw [sidL_no hno, dc_false hno]
    clear hno
    go_enter Try.func20, Try.ntmps20
    go_wp2_with fail
    refine hp.mono ?_
    rintro e w1 ⟨A, c, rfl, ho, hb1⟩
    clear ho
    go_wp2_with fail
    go_ret2
    exact RetInts.none_ (hb1.alloc hb1.size _)
end Go.Proofs.Ytnecjioimjbniaa
