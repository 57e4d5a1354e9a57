/- The program's head, as a list of words: what the closed facts of every row ask of it. -/
import Derived.Test.YtebnekicbcdnaaaRows
import Derived.ProofKit
namespace Go.Proofs.Ytebnekicbcdnaaa
def blank : Char := Char.ofNat 32
def joinW : List (List Char) → List Char
  | [] => []
  | w :: ws => match ws with
    | [] => w
    | _ :: _ => w ++ blank :: joinW ws
theorem words_blank (r : List Char) : wordsSigns (blank :: r) = [] :: wordsSigns r := rfl
theorem words_cons {c : Char} (h : c ≠ blank) {r w : List Char} {ws : List (List Char)} (e : wordsSigns r = w :: ws) : wordsSigns (c :: r) = (c :: w) :: ws := by
  unfold wordsSigns
  split
  · rename_i h'; cases h'
  · rename_i h'; injection h' with h1 h2; exact absurd h1 h
  · rename_i h'; injection h' with h1 h2; subst h1; subst h2; rw [e]
theorem words_app {l r w : List Char} {ws : List (List Char)} (h : ∀ c ∈ l, c ≠ blank) (e : wordsSigns r = w :: ws) : wordsSigns (l ++ r) = (l ++ w) :: ws := by
  induction l with
  | nil => exact e
  | cons c l ih => exact words_cons (h c (by simp)) (ih fun x hx => h x (by simp [hx]))
theorem words_join : ∀ (ws : List (List Char)), ws ≠ [] → (∀ w ∈ ws, ∀ c ∈ w, c ≠ blank) → wordsSigns (joinW ws) = ws
  | [], h, _ => absurd rfl h
  | [w], _, h => by
    have := words_app (r := []) (w := []) (ws := []) (h w (by simp)) rfl
    simpa [joinW] using this
  | w :: v :: ws, _, h => by
    have ih := words_join (v :: ws) (by simp) (fun x hx => h x (by simp at hx ⊢; exact .inr hx))
    have e : wordsSigns (blank :: joinW (v :: ws)) = [] :: (v :: ws) := by rw [words_blank, ih]
    have := words_app (h w (by simp)) e
    simpa [joinW] using this
def headWords : List (List Char) := ([[104, 97, 114, 110, 101, 115, 115], [102, 57, 102, 52, 97, 102, 51, 56, 98, 48, 99, 53, 97, 48, 102, 50, 52, 101, 57, 98, 49, 53, 54, 98, 57, 50, 99, 57, 100, 53, 49, 56, 56, 56, 51, 52, 56, 50, 51, 101, 102, 57, 99, 98, 102, 102, 54, 100, 55, 53, 98, 57, 49, 53, 97, 55, 49, 98, 54, 100, 97, 53, 48, 100], [99, 117, 116], [97, 116], [108, 111, 111, 112, 46, 101, 120, 97, 109, 112, 108, 101, 47, 103, 48, 49, 50, 57, 54, 47, 108, 97, 119, 115, 46, 70, 110, 69, 120, 97, 99, 116, 67, 111, 117, 110, 116, 83, 116, 114, 105, 112, 115], [108, 111, 111, 112, 46, 101, 120, 97, 109, 112, 108, 101, 47, 103, 48, 49, 50, 57, 54, 47, 108, 97, 119, 115, 46, 70, 110, 69, 120, 97, 99, 116, 83, 116, 114, 105, 112, 115, 66, 121, 83, 113, 117, 97, 114, 101, 115], [108, 111, 111, 112, 46, 101, 120, 97, 109, 112, 108, 101, 47, 103, 48, 49, 50, 57, 54, 47, 108, 97, 119, 115, 46, 70, 110, 69, 120, 97, 99, 116, 67, 111, 117, 110, 116, 83, 116, 114, 105, 112, 115, 87, 105, 116, 104, 111, 117, 116], [108, 111, 111, 112, 46, 101, 120, 97, 109, 112, 108, 101, 47, 103, 48, 49, 50, 57, 54, 47, 108, 97, 119, 115, 46, 70, 110, 69, 120, 97, 99, 116, 83, 113, 117, 97, 114, 101, 115, 79, 102, 83, 105, 100, 101], [108, 111, 111, 112, 46, 101, 120, 97, 109, 112, 108, 101, 47, 103, 48, 49, 50, 57, 54, 47, 108, 97, 119, 115, 46, 70, 110, 69, 120, 97, 99, 116, 77, 101, 97, 110, 83, 113, 117, 97, 114, 101, 115], [108, 111, 111, 112, 46, 101, 120, 97, 109, 112, 108, 101, 47, 103, 48, 49, 50, 57, 54, 47, 108, 97, 119, 115, 46, 70, 110, 69, 120, 97, 99, 116, 70, 101, 119, 101, 115, 116, 73, 110, 83, 116, 114, 105, 112], [108, 111, 111, 112, 46, 101, 120, 97, 109, 112, 108, 101, 47, 103, 48, 49, 50, 57, 54, 47, 108, 97, 119, 115, 46, 70, 110, 69, 120, 97, 99, 116, 65, 108, 108, 83, 116, 114, 105, 112, 115], [108, 111, 111, 112, 46, 101, 120, 97, 109, 112, 108, 101, 47, 103, 48, 49, 50, 57, 54, 47, 108, 97, 119, 115, 46, 70, 110, 69, 120, 97, 99, 116, 70, 105, 108, 108, 83, 105, 100, 101, 115], [108, 111, 111, 112, 46, 101, 120, 97, 109, 112, 108, 101, 47, 103, 48, 49, 50, 57, 54, 47, 108, 97, 119, 115, 46, 70, 110, 69, 120, 97, 99, 116, 82, 97, 110, 107, 79, 102, 83, 116, 114, 105, 112], [108, 111, 111, 112, 46, 101, 120, 97, 109, 112, 108, 101, 47, 103, 48, 49, 50, 57, 54, 47, 108, 97, 119, 115, 46, 70, 110, 69, 120, 97, 99, 116, 83, 116, 114, 105, 112, 79, 102, 82, 97, 110, 107], [108, 111, 111, 112, 46, 101, 120, 97, 109, 112, 108, 101, 47, 103, 48, 49, 50, 57, 54, 47, 108, 97, 119, 115, 46, 70, 110, 69, 120, 97, 99, 116, 67, 111, 117, 110, 116, 87, 104, 111, 108, 101, 83, 116, 114, 105, 112, 115], [108, 111, 111, 112, 46, 101, 120, 97, 109, 112, 108, 101, 47, 103, 48, 49, 50, 57, 54, 47, 108, 97, 119, 115, 46, 70, 110, 69, 120, 97, 99, 116, 83, 116, 114, 105, 112, 115, 84, 104, 114, 111, 117, 103, 104]] : List (List Nat)).map (fun w => w.map Char.ofNat)
theorem headFree : (headWords.all fun w => w.all fun c => decide (c ≠ blank)) = true := by kernel_rfl
theorem headIs : Try.checked.prog.initOrder = String.ofList (joinW headWords) := by kernel_rfl
theorem headList : wordsSigns Try.checked.prog.initOrder.toList = headWords := by
  rw [headIs, String.toList_ofList]
  refine words_join _ (by unfold headWords; simp) fun w hw c hc => ?_
  have h := List.all_eq_true.1 headFree w hw
  exact of_decide_eq_true (List.all_eq_true.1 h c hc)
theorem sign_list {s : String} {l : List Char} (h : s = String.ofList l) : s.toList = l := by rw [h, String.toList_ofList]
theorem sign_harness : "harness".toList = ([104, 97, 114, 110, 101, 115, 115] : List Nat).map Char.ofNat := sign_list (by kernel_rfl)
theorem sign_ownmain : "ownmain".toList = ([111, 119, 110, 109, 97, 105, 110] : List Nat).map Char.ofNat := sign_list (by kernel_rfl)
theorem sign_gc : "gc".toList = ([103, 99] : List Nat).map Char.ofNat := sign_list (by kernel_rfl)
theorem sign_spec : "spec".toList = ([115, 112, 101, 99] : List Nat).map Char.ofNat := sign_list (by kernel_rfl)
theorem sign_stop : "stop".toList = ([115, 116, 111, 112] : List Nat).map Char.ofNat := sign_list (by kernel_rfl)
theorem sign_carried : "carried".toList = ([99, 97, 114, 114, 105, 101, 100] : List Nat).map Char.ofNat := sign_list (by kernel_rfl)
theorem sign_cut : "cut".toList = ([99, 117, 116] : List Nat).map Char.ofNat := sign_list (by kernel_rfl)
theorem sign_finals : "finals".toList = ([102, 105, 110, 97, 108, 115] : List Nat).map Char.ofNat := sign_list (by kernel_rfl)
theorem sign_reflectrows : "reflectrows".toList = ([114, 101, 102, 108, 101, 99, 116, 114, 111, 119, 115] : List Nat).map Char.ofNat := sign_list (by kernel_rfl)
theorem sign_leanrows : "leanrows".toList = ([108, 101, 97, 110, 114, 111, 119, 115] : List Nat).map Char.ofNat := sign_list (by kernel_rfl)
theorem sign_onebuild : "onebuild".toList = ([111, 110, 101, 98, 117, 105, 108, 100] : List Nat).map Char.ofNat := sign_list (by kernel_rfl)
theorem sign_publicsums : "publicsums".toList = ([112, 117, 98, 108, 105, 99, 115, 117, 109, 115] : List Nat).map Char.ofNat := sign_list (by kernel_rfl)
theorem sign_eqguard : "eqguard".toList = ([101, 113, 103, 117, 97, 114, 100] : List Nat).map Char.ofNat := sign_list (by kernel_rfl)
theorem sign_ownunsafe : "ownunsafe".toList = ([111, 119, 110, 117, 110, 115, 97, 102, 101] : List Nat).map Char.ofNat := sign_list (by kernel_rfl)
theorem sign_libbeside : "libbeside".toList = ([108, 105, 98, 98, 101, 115, 105, 100, 101] : List Nat).map Char.ofNat := sign_list (by kernel_rfl)
theorem sign_ownbeside : "ownbeside".toList = ([111, 119, 110, 98, 101, 115, 105, 100, 101] : List Nat).map Char.ofNat := sign_list (by kernel_rfl)
theorem sign_reflbeside : "reflbeside".toList = ([114, 101, 102, 108, 98, 101, 115, 105, 100, 101] : List Nat).map Char.ofNat := sign_list (by kernel_rfl)
theorem sign_aliases : "aliases".toList = ([97, 108, 105, 97, 115, 101, 115] : List Nat).map Char.ofNat := sign_list (by kernel_rfl)
theorem sign_afterinit : "afterinit".toList = ([97, 102, 116, 101, 114, 105, 110, 105, 116] : List Nat).map Char.ofNat := sign_list (by kernel_rfl)
theorem sign_crcplain : "crcplain".toList = ([99, 114, 99, 112, 108, 97, 105, 110] : List Nat).map Char.ofNat := sign_list (by kernel_rfl)
theorem sign_roadunsafe : "roadunsafe".toList = ([114, 111, 97, 100, 117, 110, 115, 97, 102, 101] : List Nat).map Char.ofNat := sign_list (by kernel_rfl)
theorem sign_fmthandon : "fmthandon".toList = ([102, 109, 116, 104, 97, 110, 100, 111, 110] : List Nat).map Char.ofNat := sign_list (by kernel_rfl)
def liftSigns : List (List Char) := [[102, 105, 110, 97, 108, 115], [114, 101, 102, 108, 101, 99, 116, 114, 111, 119, 115], [108, 101, 97, 110, 114, 111, 119, 115], [111, 110, 101, 98, 117, 105, 108, 100], [112, 117, 98, 108, 105, 99, 115, 117, 109, 115], [101, 113, 103, 117, 97, 114, 100], [111, 119, 110, 117, 110, 115, 97, 102, 101], [108, 105, 98, 98, 101, 115, 105, 100, 101], [111, 119, 110, 98, 101, 115, 105, 100, 101], [114, 101, 102, 108, 98, 101, 115, 105, 100, 101], [97, 108, 105, 97, 115, 101, 115], [97, 102, 116, 101, 114, 105, 110, 105, 116], [99, 114, 99, 112, 108, 97, 105, 110], [114, 111, 97, 100, 117, 110, 115, 97, 102, 101], [102, 109, 116, 104, 97, 110, 100, 111, 110]].map fun w => w.map Char.ofNat
theorem lift_signs : liftWords.map String.toList = liftSigns := by
  unfold liftWords
  simp only [List.map_cons, List.map_nil, sign_finals, sign_reflectrows, sign_leanrows, sign_onebuild, sign_publicsums, sign_eqguard, sign_ownunsafe, sign_libbeside, sign_ownbeside, sign_reflbeside, sign_aliases, sign_afterinit, sign_crcplain, sign_roadunsafe, sign_fmthandon]
  kernel_rfl
theorem strip_none : ∀ (os : List String) (w : List Char) (ws : List (List Char)), ((os.map String.toList).all fun o => !(w == o)) = true → stripLifts os (w :: ws) = ([], w :: ws)
  | [], _, _, _ => rfl
  | o :: os, w, ws, h => by
    simp only [List.map_cons, List.all_cons, Bool.and_eq_true, Bool.not_eq_true'] at h
    have ih := strip_none os w ws h.2
    unfold stripLifts
    rw [h.1]
    simpa using ih
def tailWords : List (List Char) := headWords.drop 2
theorem headBehind : behindMainWord headWords = tailWords := by
  have h : headWords = headWords[0]! :: headWords[1]! :: tailWords := by kernel_rfl
  rw [h]
  unfold behindMainWord
  simp only []
  rw [sign_harness, sign_ownmain]
  have e : ((headWords[0]! == ([104, 97, 114, 110, 101, 115, 115] : List Nat).map Char.ofNat || headWords[0]! == ([111, 119, 110, 109, 97, 105, 110] : List Nat).map Char.ofNat) && isSumSigns headWords[1]!) = true := by kernel_rfl
  rw [e]
  rfl
def cutSigns : List Char := ([99, 117, 116] : List Nat).map Char.ofNat
def restWords : List (List Char) := headWords.drop 3
theorem tail_cut : tailWords = cutSigns :: restWords := by kernel_rfl
theorem strip_cut : stripLifts liftWords (cutSigns :: restWords) = ([], cutSigns :: restWords) := strip_none _ _ _ (by rw [lift_signs]; kernel_rfl)
theorem headLift : Try.checked.prog.headLifts = [] := by
  unfold Program.headLifts
  rw [headList, headBehind, tail_cut, strip_cut]
  simp
theorem cut_eq : "cut".toList = cutSigns := sign_cut
theorem headFinal : Try.checked.prog.liftsFinal = false := by
  unfold Program.liftsFinal
  rw [headLift, headList, headBehind, tail_cut]
  simp only [List.head?_cons, List.contains_nil, Bool.or_false]
  rw [sign_carried]
  have e : (some cutSigns == some (([99, 97, 114, 114, 105, 101, 100] : List Nat).map Char.ofNat)) = false := by kernel_rfl
  rw [e]
  rfl
theorem make_of (P : Program) (r : List (List Char)) (h : behindMainWord (wordsSigns P.initOrder.toList) = cutSigns :: r) : P.make = some .cut := by
  unfold Program.make
  rw [h]
  simp only []
  rw [sign_gc, sign_spec, cut_eq]
  have e : (cutSigns == ([103, 99] : List Nat).map Char.ofNat || cutSigns == ([115, 112, 101, 99] : List Nat).map Char.ofNat) = false := by kernel_rfl
  have e' : (cutSigns == cutSigns) = true := by kernel_rfl
  rw [e, e']
  simp
theorem enter_of (P : Program) (r : List (List Char)) (h : behindMainWord (wordsSigns P.initOrder.toList) = cutSigns :: r) (c2 : P.laysLater = false) (c3 : P.bearsReflect = false) (c4 : P.doorFits [] = true) : P.mayEnter = true := by
  unfold Program.mayEnter
  rw [h]
  simp only []
  rw [show stripLifts liftWords (cutSigns :: r) = ([], cutSigns :: r) from strip_none _ _ _ (by rw [lift_signs]; kernel_rfl)]
  have c1 : (some cutSigns == some "cut".toList) = true := by rw [cut_eq]; kernel_rfl
  simp only [List.head?_cons, c1, c2, c3, c4]
  simp
theorem headTail : behindMainWord (wordsSigns Try.checked.prog.initOrder.toList) = cutSigns :: restWords := (congrArg behindMainWord headList).trans (headBehind.trans tail_cut)
theorem headMake : Try.checked.prog.make = some .cut := make_of _ _ headTail
theorem headEnter : Try.checked.prog.mayEnter = true := enter_of _ _ headTail (by kernel_rfl) (by kernel_rfl) (by kernel_rfl)
end Go.Proofs.Ytebnekicbcdnaaa
