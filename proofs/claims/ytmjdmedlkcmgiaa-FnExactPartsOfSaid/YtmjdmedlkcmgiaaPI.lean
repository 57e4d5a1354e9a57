/- Contract of the program's PartsOf. -/
import Derived.Test.YtmjdmedlkcmgiaaSimpI
import Derived.Test.YtmjdmedlkcmgiaaSortL
set_option linter.all false
namespace Go.Proofs.Ytmjdmedlkcmgiaa
open Go.RowKit

theorem part_len (L : List Sq) (n : Nat) (W H : Int) : ∀ l ∈ allP W H L n, l.length ≤ L.length := fun _ h => allP_mem_len h
theorem tot_perm {M N : List (List Int)} (h : M.Perm N) : tot M = tot N := by
  induction h with
  | nil => rfl
  | cons x _ ih => simp [tot, ih]
  | swap x y l => simp only [tot]; omega
  | trans _ _ h1 h2 => rw [h1, h2]
theorem tot_le {M : List (List Int)} {b : Nat} (h : ∀ l ∈ M, l.length ≤ b) : tot M ≤ M.length * b := by
  induction M with
  | nil => simp [tot]
  | cons l M ih =>
    have h1 := h l (by simp)
    have h2 := ih fun x hx => h x (by simp [hx])
    rw [tot, List.length_cons, Nat.succ_mul]
    omega
theorem parts_bd {W H : Int} {L : List Sq} (hG : Good W H L) : (srtL (allP W H L L.length)).length + tot (srtL (allP W H L L.length)) ≤ 1048576 := by
  have hp := srtL_perm (allP W H L L.length)
  rw [hp.length_eq, tot_perm hp]
  have hn := hG.2.2.1.2
  have a := allP_len W H L L.length
  have b := Nat.mul_le_mul hn hn
  have c := tot_le (b := 30) (M := allP W H L L.length) (fun l hl => Nat.le_trans (allP_mem_len hl) hn)
  omega
theorem btw_yes {L : List Sq} {f q : Sq} (h : PartI L f q) : btw L f q = inL f (wX f q) (hY f q) L L.length := by unfold btw; rw [if_pos h.1]

set_option maxRecDepth 100000 in
set_option maxHeartbeats 16000000 in
theorem implParts_any (W H : Int) (A : Option Addr) (n c : Nat) (L : List Sq) (w : World) (hl : L.length = n) (hc : n ≤ c) (hL : SqsAt w w.heap.size A L) (hwf : ∀ s ∈ L, wfS s) :
    Calls Try.prog 50 #[.agg #[.int .i64 W, .int .i64 H, .slice A n c]] w (RetSS w (ifGood W H L (srtL (allP W H L L.length))) (dc (Good W H L))) := by
  subst hl
  obtain ⟨j0, hj, hy0, hy1, hy2⟩ := info_parts infoSl
  have hb0 : ∀ o : Obj, Below w.heap.size w (w.alloc o) := fun o => (Below.refl _ _).alloc (Nat.le_refl _) o
  have Z0 : Box w.heap.size w (w.alloc (.cells #[.int .i64 W, .int .i64 H, .slice A L.length c] 31)) W H A c L := Box.start hL
  by_cases hG : Good W H L
  · rw [ifGood_yes hG, dc_true hG]
    have hg30 := hG.2.2.1.2
    have HG := Lib.hid hG
    go_enter Try.func50, Try.ntmps50
    go_wp2_with fail
    refine (callB_yes (isCut_good W H A _ c L _ rfl hc ((hL.below (hb0 _)).mono (hb0 _).size) hwf) hG).mono ?_
    rintro e w1 ⟨rfl, hb1⟩
    have Z1 := Z0.next hb1
    obtain ⟨hB1, hz1, b0, b1, b2, hL1⟩ := id Z1
    clear Z0 hb1 hb0 hG
    go_wp2_with fail
    go_loopw [4, 16] (fun v i wr => ∃ (i' : Nat) (A' : Option Addr) (n' c' : Nat) (R : List Rw), i' ≤ L.length ∧ i = .int .i64 i' ∧ v = .slice A' n' c' ∧ lists R = allP W H L i' ∧ OwnSS wr w1.heap.size A' n' c' R ∧ Below w1.heap.size w1 wr) (fun _ i _ => L.length - (intOf i).toNat)
    case atStart => exact ⟨0, none, 0, 0, [], Nat.zero_le _, rfl, rfl, rfl, OwnSS.nil _ _, Below.refl _ _⟩
    case round =>
      obtain ⟨i, A1, n1, c1, R1, hik, rfl, rfl, hM1, hS1, hbr⟩ := hrel
      have hs1 := hbr.size
      have Zr := Z1.next hbr
      obtain ⟨hBr, hzr, d0, d1, d2, hLr⟩ := id Zr
      by_cases hlt : i < L.length
      · obtain ⟨f, hf⟩ : ∃ s, L[i]? = some s := ⟨_, List.getElem?_eq_getElem hlt⟩
        obtain ⟨b, off, rfl, hb, c0, c1', c2⟩ := hLr i f hf
        have hfm := List.mem_of_getElem? hf
        have HF := Lib.hid hf
        have HM1 := Lib.hid hM1
        have k0 : (0 : Int) ≤ (i : Int) := by omega
        have k1 : (i : Int) < (L.length : Int) := by omega
        have hm1 := allP_len W H L i
        have hi30 : i * L.length ≤ 900 := Nat.le_trans (Nat.mul_le_mul (Nat.le_of_lt (Nat.lt_of_lt_of_le hlt hg30)) hg30) (by decide)
        clear hf hM1 b0 b1 b2 hL1
        go_wp2_with fail
        obtain ⟨W2, hW2⟩ : ∃ W2, W2 = wr.alloc (.cells #[.int .i64 f.x, .int .i64 f.y, .int .i64 f.d] 70) := ⟨_, rfl⟩
        have hb2 : Below wr.heap.size wr W2 := by rw [hW2]; exact (Below.refl _ _).alloc (Nat.le_refl _) _
        have hz2 : wr.heap.size < W2.heap.size := by rw [hW2]; simp
        have f0 : W2.cell? ⟨wr.heap.size, 0, none⟩ = some (.int .i64 f.x) := by rw [hW2]; simp
        have f1 : W2.cell? ⟨wr.heap.size, 1, none⟩ = some (.int .i64 f.y) := by rw [hW2]; simp
        have f2 : W2.cell? ⟨wr.heap.size, 2, none⟩ = some (.int .i64 f.d) := by rw [hW2]; simp
        have Z2 := Zr.next hb2
        have b2' := Z2.c2
        have hS2 := hS1.keep hb2
        have hB2 := hbr.trans (hb2.mono hs1)
        obtain ⟨g, hg⟩ : ∃ g, g = wr.heap.size := ⟨_, rfl⟩
        have hng1 : ∀ kk, Blk A1 n1 c1 R1 kk → kk ≠ g := fun kk hkk => by have := (hS1.lt hkk).2; omega
        rw [← hW2]
        rw [← hg] at f0 f1 f2 hz2 hs1 ⊢
        clear hW2 d0 d1 d2 c0 c1' c2 hLr Zr hb2 hbr hg hBr hzr hS1
        go_loopw [4, 23] (fun v k wr => ∃ (k' : Nat) (A' : Option Addr) (n' c' : Nat) (R : List Rw), k' ≤ L.length ∧ k = .int .i64 k' ∧ v = .slice A' n' c' ∧ lists R = allP W H L i ++ rowP W H L i k' ∧ OwnSS wr w1.heap.size A' n' c' R ∧ Box w.heap.size w wr W H (some ⟨b, off, none⟩) c L ∧ Below w1.heap.size w1 wr ∧ g < wr.heap.size ∧ wr.cell? ⟨g, 0, none⟩ = some (.int .i64 f.x) ∧ wr.cell? ⟨g, 1, none⟩ = some (.int .i64 f.y) ∧ wr.cell? ⟨g, 2, none⟩ = some (.int .i64 f.d) ∧ ∀ kk, Blk A' n' c' R kk → kk ≠ g) (fun _ i _ => L.length - (intOf i).toNat)
        case atStart => exact ⟨0, A1, n1, c1, R1, Nat.zero_le _, rfl, rfl, by rw [rowP_zero, List.append_nil]; exact HM1.out, hS2, Z2, hB2, hz2, f0, f1, f2, hng1⟩
        case round =>
          obtain ⟨k, A2, n2, c2, R2, hkk, rfl, rfl, hM2, hS3, Z3, hB3, hgz, g0, g1, g2, hng⟩ := hrel
          have hw1 := hB3.size
          obtain ⟨_, hz3, d0, d1, d2, hL3⟩ := id Z3
          by_cases hlt2 : k < L.length
          · obtain ⟨q, hq⟩ : ∃ s, L[k]? = some s := ⟨_, List.getElem?_eq_getElem hlt2⟩
            obtain ⟨b', off', he, hb', c0, c1', c2'⟩ := hL3 k q hq
            simp only [Option.some.injEq, Addr.mk.injEq] at he
            obtain ⟨rfl, rfl, _⟩ := he
            have hqm := List.mem_of_getElem? hq
            have HQ := Lib.hid hq
            have hm2 := rowP_len W H L i k
            have hn2 : n2 ≤ 930 := by
              have e := hS3.len
              rw [← lists_len, hM2, List.length_append] at e
              omega
            have HM2 := Lib.hid hM2
            have hsu : allP W H L i ++ rowP W H L i (k + 1) = allP W H L i ++ rowP W H L i k ++ cellP W H L i k := by rw [rowP_succ, List.append_assoc]
            have HSU := Lib.hid hsu
            have q0 : (0 : Int) ≤ (k : Int) := by omega
            have q1 : (k : Int) < (L.length : Int) := by omega
            clear hq hM2 hsu f0 f1 f2
            go_wp2_with fail
            obtain ⟨W4, hW4⟩ : ∃ W4, W4 = wr.alloc (.cells #[.int .i64 q.x, .int .i64 q.y, .int .i64 q.d] 70) := ⟨_, rfl⟩
            have hb4 : Below wr.heap.size wr W4 := by rw [hW4]; exact (Below.refl _ _).alloc (Nat.le_refl _) _
            have hz4 : wr.heap.size < W4.heap.size := by rw [hW4]; simp
            have p0 : W4.cell? ⟨wr.heap.size, 0, none⟩ = some (.int .i64 q.x) := by rw [hW4]; simp
            have p1 : W4.cell? ⟨wr.heap.size, 1, none⟩ = some (.int .i64 q.y) := by rw [hW4]; simp
            have p2 : W4.cell? ⟨wr.heap.size, 2, none⟩ = some (.int .i64 q.d) := by rw [hW4]; simp
            have Z4 := Z3.next hb4
            have r0 := (hb4.cell (p := ⟨g, 0, none⟩) hgz).trans g0
            have r1 := (hb4.cell (p := ⟨g, 1, none⟩) hgz).trans g1
            have r2 := (hb4.cell (p := ⟨g, 2, none⟩) hgz).trans g2
            have hS4 := hS3.keep hb4
            have hB4 := hB3.trans (hb4.mono hw1)
            have hgz4 : g < W4.heap.size := by omega
            rw [← hW4]
            clear hW4 d0 d1 d2 c0 c1' c2' g0 g1 g2 hL3 Z3 hb4 hB3 hS3
            obtain ⟨h, hh⟩ : ∃ h, h = wr.heap.size := ⟨_, rfl⟩
            rw [← hh] at p0 p1 p2 hz4 ⊢
            clear hh hz3 hb' b2'
            obtain ⟨hB4', hz5, d0, d1, d2, hL5⟩ := id Z4
            have hLT := hL5.mono Z4.below.size
            refine (between_any W H _ L.length c L f q _ rfl hc hLT HG.out hfm hqm).mono ?_
            rintro e w8 ⟨A8, c8, rfl, ho8, hb8⟩
            have Z8 := Z4.next hb8
            obtain ⟨_, hz8, x0, x1, x2, _⟩ := id Z8
            have s0 := (hb8.cell (p := ⟨g, 0, none⟩) hgz4).trans r0
            have s1 := (hb8.cell (p := ⟨g, 1, none⟩) hgz4).trans r1
            have s2 := (hb8.cell (p := ⟨g, 2, none⟩) hgz4).trans r2
            have hS8 := hS4.keep hb8
            have hB8 := hB4.trans (hb8.mono hB4.size)
            have hgz8 : g < w8.heap.size := by have := hb8.size; omega
            have hlow : ∀ kk, Blk A2 n2 c2 R2 kk → kk < W4.heap.size := fun kk hkk => (hS4.lt hkk).2
            have hbt := btw_len L f q
            clear hb8 hS4 r0 r1 r2 d0 d1 d2 p0 p1 p2 hL5 hLT hB4'
            by_cases hp : PartI L f q
            · have hp2 := btw_part.2 hp
              have hcell := cellP_yes HF.out HQ.out ((part_same HG.out HF.out HQ.out).1 hp)
              rw [← btw_yes hp] at hcell
              obtain ⟨BT, hBT⟩ : ∃ x, btw L f q = x := ⟨_, rfl⟩
              rw [hBT] at hcell hp2 ho8 hbt ⊢
              have HC := Lib.hid hcell
              have CP := callB_yes (isPart_any W H (some ⟨b, off, none⟩) L.length c A8 BT.length c8 w8 (by omega) (by omega)) hp2
              clear hcell hp hBT hp2
              go_wp2_with fail
              refine CP.mono ?_
              rintro e w9 ⟨rfl, hb9⟩
              clear CP
              have Z9 := Z8.next hb9
              have ho9 := own_keep ho8 hb9
              have hS9 := hS8.keep hb9
              have hB9 := hB8.trans (hb9.mono hB8.size)
              have t0 := (hb9.cell (p := ⟨g, 0, none⟩) hgz8).trans s0
              have t1 := (hb9.cell (p := ⟨g, 1, none⟩) hgz8).trans s1
              have t2 := (hb9.cell (p := ⟨g, 2, none⟩) hgz8).trans s2
              have hgz9 : g < w9.heap.size := by have := hb9.size; omega
              have hw9 := hB9.size
              have hbig : ∀ kk, (Value.slice A8 BT.length c8).ownBlock = some kk → W4.heap.size ≤ kk := fun kk hkk => (ho8.lt kk hkk).1
              have hbl : n2 + 1 ≤ maxLen := by unfold maxLen; omega
              have hby : (n2 + 1) * 24 ≤ 140737488355328 := by omega
              have hwW := hB4.size
              clear hb9 hS8 hB8 s0 s1 s2 ho8 Z8 x0 x1 x2
              go_wp2_with (at_builtin; refine app_list rfl _ _ _ rfl w1.heap.size 42 j0 (.slice none 0 0) 1 24 Try.underlying26 hj hy0 hy1 hy2 rfl (by decide) (.slice A2 n2 c2) n2 _ rfl (hS9.outer.alloc _) (some ⟨w9.heap.size, 0, none⟩) 1 1 [.slice A8 BT.length c8] rfl rfl (.inr ⟨_, rfl, new1 _ _ _⟩) (one1 _ rfl) hbl hby (by simp; omega) ?_; intro v' w6 hown6 hgrow hv6)
              have u0 := (hgrow.cell_far ⟨g, 0, none⟩ (by simp; omega) (fun e => hng g (.inl e.symm) rfl)).trans ((World.cell?_alloc_lt w9 _ ⟨g, 0, none⟩ hgz9).trans t0)
              have u1 := (hgrow.cell_far ⟨g, 1, none⟩ (by simp; omega) (fun e => hng g (.inl e.symm) rfl)).trans ((World.cell?_alloc_lt w9 _ ⟨g, 1, none⟩ hgz9).trans t1)
              have u2 := (hgrow.cell_far ⟨g, 2, none⟩ (by simp; omega) (fun e => hng g (.inl e.symm) rfl)).trans ((World.cell?_alloc_lt w9 _ ⟨g, 2, none⟩ hgz9).trans t2)
              have hBx := ((Below.refl w1.heap.size w9).alloc hw9 (.cells #[.slice A8 BT.length c8] 42)).grown hgrow (by simp; omega) (fun k hk => (hS9.lt (.inl hk)).1)
              have hB7 := hB9.trans hBx
              have hs6 := hgrow.size
              simp only [World.size_alloc] at hs6
              have Z7 := Z9.keep hBx hz1 (by omega)
              obtain ⟨A7, c7, rfl, hS7⟩ := (hS9.keep ((Below.refl _ _).alloc (Nat.le_refl _) _)).push ⟨A8, c8, BT⟩ (own_base (ho9.alloc _) hwW) (fun kk hkk hkb => by have := hbig kk hkk; have := hlow kk hkb; omega) hown6 hgrow hv6
              have hng7 : ∀ kk, Blk A7 (n2 + 1) c7 (R2 ++ [⟨A8, c8, BT⟩]) kk → kk ≠ g := by
                rintro kk (e | ⟨r, hr, e⟩)
                · rcases hv6 with h | h
                  · rw [h] at e; exact hng kk (.inl e)
                  · rw [h] at e; cases e; simp; omega
                · rcases List.mem_append.1 hr with hr | hr
                  · exact hng kk (.inr ⟨r, hr, e⟩)
                  · rw [List.mem_singleton.1 hr] at e
                    have := hbig kk e
                    omega
              clear hgrow hown6 hv6 hS9 t0 t1 t2 Z9 hBx
              go_wp2_with fail
              go_roundw
              case rel => exact ⟨k + 1, A7, n2 + 1, c7, _, by omega, by go_num, rfl, by rw [HSU.out, HC.out, lists_app, HM2.out]; rfl, hS7, Z7, hB7, by omega, u0, u1, u2, hng7⟩
              case measure => simp [intOf]; omega
            · have hp2 := mt btw_part.1 hp
              have hcell := cellP_no HF.out HQ.out (mt (part_same HG.out HF.out HQ.out).2 hp)
              have HC := Lib.hid hcell
              obtain ⟨BT, hBT⟩ : ∃ x, btw L f q = x := ⟨_, rfl⟩
              rw [hBT] at hp2 hbt ⊢
              have CP := callB_no (isPart_any W H (some ⟨b, off, none⟩) L.length c A8 BT.length c8 w8 (by omega) (by omega)) hp2
              clear hcell hp hp2 hBT
              go_wp2_with fail
              refine CP.mono ?_
              rintro e w9 ⟨rfl, hb9⟩
              clear CP
              have Z9 := Z8.next hb9
              have hS9 := hS8.keep hb9
              have hB9 := hB8.trans (hb9.mono hB8.size)
              have t0 := (hb9.cell (p := ⟨g, 0, none⟩) hgz8).trans s0
              have t1 := (hb9.cell (p := ⟨g, 1, none⟩) hgz8).trans s1
              have t2 := (hb9.cell (p := ⟨g, 2, none⟩) hgz8).trans s2
              have hgz9 : g < w9.heap.size := by have := hb9.size; omega
              clear hb9 hS8 hB8 s0 s1 s2 ho8 Z8 x0 x1 x2
              go_wp2_with fail
              go_roundw
              case rel => exact ⟨k + 1, A2, n2, c2, R2, by omega, by go_num, rfl, by rw [HSU.out, HC.out, List.append_nil]; exact HM2.out, hS9, Z9, hB9, hgz9, t0, t1, t2, hng⟩
              case measure => simp [intOf]; omega
          · obtain rfl : k = L.length := by omega
            go_wp2_with fail
            go_roundw
            case rel => exact ⟨i + 1, A2, n2, c2, R2, by omega, by go_num, rfl, by rw [allP_succ]; exact hM2, hS3, hB3⟩
            case measure => simp [intOf]; omega
      · obtain rfl : i = L.length := by omega
        have hmem : ∀ r ∈ R1, r.L.length ≤ 1048576 := fun r hr => by
          have h1 : r.L ∈ lists R1 := List.mem_map.2 ⟨r, hr, rfl⟩
          rw [hM1] at h1
          have := part_len L L.length W H _ h1
          omega
        have hn1 : n1 ≤ 1048576 := by
          have e := hS1.len
          rw [← lists_len, hM1] at e
          have a := allP_len W H L L.length
          have := Nat.mul_le_mul hg30 hg30
          omega
        have CS := sortL_any A1 n1 c1 w1.heap.size R1 wr hn1 hmem hS1
        have HM1 := Lib.hid hM1
        have hBF := hB1.trans (hbr.mono hB1.size)
        have hroom : ∀ kk, (Value.slice A1 n1 c1).ownBlock = some kk → w.heap.size ≤ kk := fun kk hkk => Nat.le_trans hB1.size (hS1.lt (.inl hkk)).1
        clear hM1 hS1 hmem d0 d1 d2 hLr Zr
        go_wp2_with fail
        refine CS.mono ?_
        rintro e w5 ⟨rfl, T, hT, hP, hS5, hg5⟩
        have hlT : lists T = srtL (allP W H L L.length) := by
          rw [← HM1.out]
          exact srtL_uniq (hT.map _) (List.pairwise_map.2 hP)
        have hB5 := hBF.grown hg5 hBF.size hroom
        clear CS hg5
        go_wp2_with fail
        go_ret2
        exact RetSS.mk hlT (hS5.based hB1.size) hB5
  · rw [ifGood_no hG, dc_false hG]
    go_enter Try.func50, Try.ntmps50
    go_wp2_with fail
    refine (callB_no (isCut_good W H A _ c L _ rfl hc ((hL.below (hb0 _)).mono (hb0 _).size) hwf) hG).mono ?_
    rintro e w1 ⟨rfl, hb1⟩
    go_wp2_with fail
    go_ret2
    exact RetSS.none_ ((hb0 _).trans (hb1.mono (hb0 _).size))
end Go.Proofs.Ytmjdmedlkcmgiaa
