/- date's Parse: the walk. -/
import Derived.Test.YtgkibkophoikoaaDoorDtMon
import Derived.Test.YtgkibkophoikoaaDoorDtNumber
import Derived.Test.YtgkibkophoikoaaDoorDtPar3
namespace Go.Proofs.YtgkibkophoikoaaDoor
open Go.RowKit
set_option linter.unusedVariables false
set_option maxRecDepth 100000

theorem number_4 (p : ByteArray) (x : Int) (hp : p.size ≤ 4) (hx : x = Dt.number p.data.toList) : -1 ≤ x ∧ x ≤ 9999 := by
  rw [hx]
  exact Dt.number_le _ hp
theorem trim_prefix (l : List UInt8) : Lib.trimPrefix l [32] = Dt.trim l := by
  unfold Lib.trimPrefix Dt.trim Lib.hasPrefix
  cases l with
  | nil => rfl
  | cons a r =>
    by_cases h : a = 32
    · subst h; simp [List.isPrefixOf]
    · have h2 : ¬ (32 : UInt8) = a := fun e => h e.symm
      simp [List.isPrefixOf, h, h2]

/-- Parse's region under way: what has come up. -/
structure PS (w1 : World) (pt : ByteArray) (vs : List (Option Int)) (fin : Array Value) (f : Nat → Bool) (R : Nat → Value) (W : World) : Prop where
  below : Below w1.heap.size w1 W
  str : f 0 = true → R 0 = .string pt
  val : ∀ k v, f k = true → vs[k]? = some (some v) → R k = .int .i64 v
  new : f 9 = true → ∃ g, R 9 = .pointer (some ⟨g, 0, none⟩) ∧ w1.heap.size ≤ g ∧ Blk W g 24 (if f 10 then fin else #[.int .i64 0, .int .i64 0, .int .i64 0, .int .i64 0, .int .i64 0, .int .i64 0, .int .i64 0])
  ord : f 10 = true → f 9 = true
section
variable {w1 W W' : World} {pt : ByteArray} {vs : List (Option Int)} {fin : Array Value} {f : Nat → Bool} {R : Nat → Value}
theorem PS.next (h : PS w1 pt vs fin f R W) (k : Nat) (hk : k < 9) (hb : Below W.heap.size W W') (v : Value) (h0 : k = 0 → v = .string pt) (hv : ∀ x, vs[k]? = some (some x) → v = .int .i64 x) : PS w1 pt vs fin (setF f k) (setR R k v) W' := by
  have e9 : setF f k 9 = f 9 := setF_ne f (by omega)
  have e10 : setF f k 10 = f 10 := setF_ne f (by omega)
  refine ⟨h.below.trans (hb.mono h.below.size), fun hf => ?_, fun j x hf hx => ?_, fun hf => ?_, fun hf => ?_⟩
  · by_cases e : 0 = k
    · subst e; rw [setR_self]; exact h0 rfl
    · rw [setF_ne f e] at hf; rw [setR_ne R v e]; exact h.str hf
  · by_cases e : j = k
    · subst e; rw [setR_self]; exact hv x hx
    · rw [setF_ne f e] at hf; rw [setR_ne R v e]; exact h.val j x hf hx
  · rw [e9] at hf
    obtain ⟨g, h1, h2, h3⟩ := h.new hf
    rw [e10, setR_ne R v (show 9 ≠ k by omega)]
    exact ⟨g, h1, h2, h3.below hb h3.lt⟩
  · rw [e10] at hf; rw [e9]; exact h.ord hf
theorem PS.alloc (h : PS w1 pt vs fin f R W) (h9 : f 9 = false) (hn : ∀ x, vs[9]? ≠ some (some x)) : PS w1 pt vs fin (setF f 9) (setR R 9 (.pointer (some ⟨W.heap.size, 0, none⟩))) (W.alloc (.cells #[.int .i64 0, .int .i64 0, .int .i64 0, .int .i64 0, .int .i64 0, .int .i64 0, .int .i64 0] 24)) := by
  have e10 : setF f 9 10 = f 10 := setF_ne f (by omega)
  have h10 : f 10 = false := by
    cases e : f 10 with
    | false => rfl
    | true => rw [h.ord e] at h9; cases h9
  refine ⟨h.below.alloc h.below.size _, fun hf => ?_, fun j x hf hx => ?_, fun _ => ?_, fun hf => ?_⟩
  · rw [setF_ne f (by omega)] at hf; rw [setR_ne R _ (by omega)]; exact h.str hf
  · by_cases e : j = 9
    · subst e; exact absurd hx (hn x)
    · rw [setF_ne f e] at hf; rw [setR_ne R _ e]; exact h.val j x hf hx
  · rw [e10, h10, setR_self]
    exact ⟨_, rfl, h.below.size, Blk.new W _ _⟩
  · rw [e10, h10] at hf; cases hf
end
/-- What Parse hands back. -/
def parseV : Option Dt.D → Value
  | none => .tuple #[.agg (dcs Dt.zero), .int .i64 3]
  | some d => .tuple #[.agg (dcs d), .int .i64 0]
def ParseEnd (s : ByteArray) (w : World) (e : Ending) (w' : World) : Prop := ∃ r, Dt.ParseR s.data.toList r ∧ e = .returned (parseV r) ∧ Below w.heap.size w w'
theorem parse_ret (w : World) (tmps : Array Value) (g : Nat) (hp : tmps.getD 2 undef = .pointer (some ⟨g, 0, none⟩)) (y m k hh mi s z : Int) (x : Value) (hx : tmps.getD 3 undef = x) (hg : Blk w g 24 #[.int .i64 y, .int .i64 m, .int .i64 k, .int .i64 hh, .int .i64 mi, .int .i64 s, .int .i64 z]) :
    (results Tryd.f9 tmps).run Tryd.prog w = .ok (.tuple #[.agg #[.int .i64 y, .int .i64 m, .int .i64 k, .int .i64 hh, .int .i64 mi, .int .i64 s, .int .i64 z], x]) w :=
  ret_cell2 rfl tmps w g hp _ _ hg _ Tryd.underlying24 rfl (by kernel_rfl) x hx

set_option maxHeartbeats 6400000 in
theorem parse_any (s : ByteArray) (w : World) (hP : PW w) (hW : FW w) : Calls Tryd.prog 9 #[.string s] w (ParseEnd s w) := by
  obtain ⟨w1, Hw1⟩ : ∃ w1, Hid (w1 = w.alloc (.cells #[.int .i64 0, .int .i64 0, .int .i64 0, .int .i64 0, .int .i64 0, .int .i64 0, .int .i64 0] 24)) := ⟨_, Lib.hid rfl⟩
  have HB1 : Hid (Below w.heap.size w w1) := Lib.hid (by rw [Hw1.out]; exact (Below.refl _ _).alloc (Nat.le_refl _) _)
  have HG1 : Hid (Blk w1 w.heap.size 24 #[.int .i64 0, .int .i64 0, .int .i64 0, .int .i64 0, .int .i64 0, .int .i64 0, .int .i64 0]) := Lib.hid (by rw [Hw1.out]; exact Blk.new w _ _)
  have HW := Lib.hid hW
  have HPW := Lib.hid hP
  have hlen : s.data.toList.length = s.size := rfl
  clear hP hW
  by_cases h26 : s.size = 26
  case neg =>
    have b1 : ((s.size : Int) != 26) = true := by rw [bne_iff_ne]; omega
    have HN : Hid (Dt.ParseR s.data.toList none) := Lib.hid (Dt.ParseR.len (by rw [hlen]; exact h26))
    have hG : Blk (w.alloc (.cells #[.int .i64 0, .int .i64 0, .int .i64 0, .int .i64 0, .int .i64 0, .int .i64 0, .int .i64 0] 24)) w.heap.size 24 #[.int .i64 0, .int .i64 0, .int .i64 0, .int .i64 0, .int .i64 0, .int .i64 0, .int .i64 0] := Blk.new w _ _
    have HG := Lib.hid hG
    clear h26 hlen hG
    go_enter Tryd.func9, Tryd.ntmps9
    go_wp2
    refine bodyPost_ret (parse_ret _ _ w.heap.size rfl 0 0 0 0 0 0 0 _ rfl HG.out) rfl ?_
    exact ⟨none, HN.out, rfl, (Below.refl _ _).alloc (Nat.le_refl _) _⟩
  have b1 : ((s.size : Int) != 26) = false := by rw [bne_eq_false_iff_eq]; omega
  have x0 := HG1.out.cell 0 _ rfl
  have cut : ∀ a b : Nat, a ≤ b → b ≤ 26 → ∃ p : ByteArray, s.extract a b = p ∧ p.size = b - a ∧ p.data.toList = (s.data.toList.drop a).take (b - a) := fun a b h1 h2 => ⟨_, rfl, by simp; omega, Lib.extract_data s a b⟩
  obtain ⟨p1, e1, z1, d1⟩ := cut 0 2 (by omega) (by omega)
  obtain ⟨p2, e2, z2, d2⟩ := cut 3 6 (by omega) (by omega)
  obtain ⟨p3, e3, z3, d3⟩ := cut 7 11 (by omega) (by omega)
  obtain ⟨p4, e4, z4, d4⟩ := cut 12 14 (by omega) (by omega)
  obtain ⟨p5, e5, z5, d5⟩ := cut 15 17 (by omega) (by omega)
  obtain ⟨p6, e6, z6, d6⟩ := cut 18 20 (by omega) (by omega)
  obtain ⟨p7, e7, z7, d7⟩ := cut 22 24 (by omega) (by omega)
  obtain ⟨p8, e8, z8, d8⟩ := cut 24 26 (by omega) (by omega)
  rw [List.drop_zero] at d1
  have d8' : p8.data.toList = s.data.toList.drop 24 := by rw [d8]; exact List.take_of_length_le (by rw [List.length_drop, hlen]; omega)
  obtain ⟨pt, Hpt⟩ : ∃ pt : ByteArray, Hid (pt = ⟨(Lib.trimPrefix p1.data.toList [32]).toArray⟩) := ⟨_, Lib.hid rfl⟩
  have dt : pt.data.toList = Dt.trim (s.data.toList.take 2) := by rw [Hpt.out, ← trim_prefix, d1]
  have zt : pt.size ≤ 4 := by
    have h1 : pt.data.toList.length = pt.size := rfl
    rw [dt] at h1
    have h2 : (Dt.trim (s.data.toList.take 2)).length ≤ (s.data.toList.take 2).length := by
      unfold Dt.trim
      split
      · rw [List.length_tail]; omega
      · exact Nat.le_refl _
    rw [List.length_take] at h2
    omega
  obtain ⟨xd, Hxd⟩ : ∃ x, Hid (x = Dt.number pt.data.toList) := ⟨_, Lib.hid rfl⟩
  obtain ⟨xo, Hxo⟩ : ∃ x : Int, Hid (x = (Dt.mon p2.data.toList : Int)) := ⟨_, Lib.hid rfl⟩
  obtain ⟨xy, Hxy⟩ : ∃ x, Hid (x = Dt.number p3.data.toList) := ⟨_, Lib.hid rfl⟩
  obtain ⟨xt, Hxt⟩ : ∃ x, Hid (x = Dt.number p4.data.toList) := ⟨_, Lib.hid rfl⟩
  obtain ⟨xi, Hxi⟩ : ∃ x, Hid (x = Dt.number p5.data.toList) := ⟨_, Lib.hid rfl⟩
  obtain ⟨xs, Hxs⟩ : ∃ x, Hid (x = Dt.number p6.data.toList) := ⟨_, Lib.hid rfl⟩
  obtain ⟨zh, Hzh⟩ : ∃ x, Hid (x = Dt.number p7.data.toList) := ⟨_, Lib.hid rfl⟩
  obtain ⟨zm, Hzm⟩ : ∃ x, Hid (x = Dt.number p8.data.toList) := ⟨_, Lib.hid rfl⟩
  obtain ⟨u1, u2⟩ := number_4 p7 zh (by omega) Hzh.out
  obtain ⟨u3, u4⟩ := number_4 p8 zm (by omega) Hzm.out
  have i1 : IntKind.i64.wrap (zh * 60) = zh * 60 := IntWalk.i64_in _ (by omega)
  have i2 : IntKind.i64.wrap (zh * 60 + zm) = zh * 60 + zm := IntWalk.i64_in _ (by omega)
  obtain ⟨zz, Hzz⟩ : ∃ x, Hid (x = zh * 60 + zm) := ⟨_, Lib.hid rfl⟩
  have hzz : -10000 ≤ zz ∧ zz ≤ 700000 := by rw [Hzz.out]; omega
  obtain ⟨v1, v2⟩ := hzz
  have i3 : IntKind.i64.wrap (-zz) = -zz := IntWalk.i64_in _ (by omega)
  have HCAND : Hid (∀ neg, neg = (s.data.toList[21]? == some 45) → Dt.cand s.data.toList = ⟨xy, xo, xd, xt, xi, xs, Dt.signed neg zz⟩) := Lib.hid (fun neg hn => by
    unfold Dt.cand
    rw [← hn, ← dt, ← Hxd.out, ← d2, ← Hxo.out, ← d3, ← Hxy.out, ← d4, ← Hxt.out, ← d5, ← Hxi.out, ← d6, ← Hxs.out, ← d7, ← Hzh.out, ← d8', ← Hzm.out, ← Hzz.out])
  have Z1 := Lib.hid z1
  have HTR : Hid (∀ W, Calls Tryd.prog 24 #[.string p1, .string ⟨#[32]⟩] W fun e w' => e = .returned (.string pt) ∧ w' = W) := Lib.hid (fun W => by
    have := Tryd.strings_TrimPrefix p1 ⟨#[32]⟩ W
    rw [show (⟨#[32]⟩ : ByteArray).data.toList = [32] from rfl, ← Hpt.out] at this
    exact this)
  have HNT := Lib.hid (number_any pt zt xd Hxd.out)
  have HN3 := Lib.hid (number_any p3 (by omega) xy Hxy.out)
  have HN4 := Lib.hid (number_any p4 (by omega) xt Hxt.out)
  have HN5 := Lib.hid (number_any p5 (by omega) xi Hxi.out)
  have HN6 := Lib.hid (number_any p6 (by omega) xs Hxs.out)
  have HN7 := Lib.hid (number_any p7 (by omega) zh Hzh.out)
  have HN8 := Lib.hid (number_any p8 (by omega) zm Hzm.out)
  have HMO : Hid (∀ W, Below w1.heap.size w1 W → Calls Tryd.prog 25 #[.string p2] W fun e w' => e = .returned (.int .i64 xo) ∧ Below W.heap.size W w') := Lib.hid (fun W hb => monthOf_any p2 (by omega) xo Hxo.out W (HW.out.below (HB1.out.trans (hb.mono HB1.out.size))))
  have hi21 : 21 < s.size := by omega
  obtain ⟨ch, hch⟩ : ∃ ch : UInt8, s[21] = ch := ⟨_, rfl⟩
  have HCH : Hid (s.data.toList[21]? = some ch) := Lib.hid (by rw [List.getElem?_eq_getElem (by omega)]; exact congrArg some hch)
  obtain ⟨sh, Hsh⟩ : ∃ sh : Int → ByteArray, Hid (∀ z, sh z = ⟨(Dt.shown ⟨xy, xo, xd, xt, xi, xs, z⟩).toArray⟩) := ⟨fun z => ⟨(Dt.shown ⟨xy, xo, xd, xt, xi, xs, z⟩).toArray⟩, Lib.hid (fun _ => rfl)⟩
  have HSHOW : Hid (∀ z W, Below w1.heap.size w1 W → Calls Tryd.prog 13 #[.agg #[.int .i64 xy, .int .i64 xo, .int .i64 xd, .int .i64 xt, .int .i64 xi, .int .i64 xs, .int .i64 z]] W fun e w' => e = .returned (.string (sh z)) ∧ Below W.heap.size W w') := Lib.hid (fun z W hb => by
    rw [Hsh.out]
    exact show_any xy xo xd xt xi xs z W (HPW.out.below (HB1.out.trans (hb.mono HB1.out.size))))
  have H26 := Lib.hid h26
  have HLEN : Hid (s.data.toList.length = 26) := Lib.hid (by rw [hlen]; exact h26)
  have E1 := Lib.hid e1
  have E2 := Lib.hid e2
  have E3 := Lib.hid e3
  have E4 := Lib.hid e4
  have E5 := Lib.hid e5
  have E6 := Lib.hid e6
  have E7 := Lib.hid e7
  have E8 := Lib.hid e8
  have I1 := Lib.hid i1
  have I2 := Lib.hid i2
  clear cut e1 e2 e3 e4 e5 e6 e7 e8 z1 z2 z3 z4 z5 z6 z7 z8 d1 d2 d3 d4 d5 d6 d7 d8 d8' dt zt u1 u2 u3 u4 i1 i2 h26 hlen x0
  go_enter Tryd.func9, Tryd.ntmps9
  go_wp2
  rw [← Hw1.out]
  refine par3 s p1 pt p2 p3 p4 p5 p6 p7 p8 xd xo xy xt xi xs zh zm (PS w1 pt [none, some xd, some xo, some xy, some xt, some xi, some xs, some zh, some zm] #[.int .i64 xy, .int .i64 xo, .int .i64 xd, .int .i64 xt, .int .i64 xi, .int .i64 xs, .int .i64 zz]) (by show 36 < 50; omega) rfl H26.out E1.out E2.out E3.out E4.out E5.out E6.out E7.out E8.out ?_ ?_ ?_ ?_ ?_ ?_ ?_ ?_ ?_ ?_ ?_ ?_ I1.out I2.out ?_ ?_
  · intro f R W h _
    refine (HTR.out W).mono ?_
    rintro e w' ⟨rfl, rfl⟩
    exact ⟨_, rfl, h.next 0 (by decide) (Below.refl _ _) _ (fun _ => rfl) (fun x hx => by cases hx)⟩
  · intro f R W h h0 _
    refine ⟨h.str h0, (HNT.out W).mono ?_⟩
    rintro e w' ⟨rfl, rfl⟩
    exact ⟨_, rfl, h.next 1 (by decide) (Below.refl _ _) _ (fun h => by cases h) (fun x hx => by injection hx with hx; injection hx with hx; rw [hx])⟩
  · intro f R W h _
    refine (HMO.out W h.below).mono ?_
    rintro e w' ⟨rfl, hb⟩
    exact ⟨_, rfl, h.next 2 (by decide) hb _ (fun h => by cases h) (fun x hx => by injection hx with hx; injection hx with hx; rw [hx])⟩
  · intro f R W h _
    refine (HN3.out W).mono ?_
    rintro e w' ⟨rfl, rfl⟩
    exact ⟨_, rfl, h.next 3 (by decide) (Below.refl _ _) _ (fun h => by cases h) (fun x hx => by injection hx with hx; injection hx with hx; rw [hx])⟩
  · intro f R W h _
    refine (HN4.out W).mono ?_
    rintro e w' ⟨rfl, rfl⟩
    exact ⟨_, rfl, h.next 4 (by decide) (Below.refl _ _) _ (fun h => by cases h) (fun x hx => by injection hx with hx; injection hx with hx; rw [hx])⟩
  · intro f R W h _
    refine (HN5.out W).mono ?_
    rintro e w' ⟨rfl, rfl⟩
    exact ⟨_, rfl, h.next 5 (by decide) (Below.refl _ _) _ (fun h => by cases h) (fun x hx => by injection hx with hx; injection hx with hx; rw [hx])⟩
  · intro f R W h _
    refine (HN6.out W).mono ?_
    rintro e w' ⟨rfl, rfl⟩
    exact ⟨_, rfl, h.next 6 (by decide) (Below.refl _ _) _ (fun h => by cases h) (fun x hx => by injection hx with hx; injection hx with hx; rw [hx])⟩
  · intro f R W h _
    refine (HN7.out W).mono ?_
    rintro e w' ⟨rfl, rfl⟩
    exact ⟨_, rfl, h.next 7 (by decide) (Below.refl _ _) _ (fun h => by cases h) (fun x hx => by injection hx with hx; injection hx with hx; rw [hx])⟩
  · intro f R W h _
    refine (HN8.out W).mono ?_
    rintro e w' ⟨rfl, rfl⟩
    exact ⟨_, rfl, h.next 8 (by decide) (Below.refl _ _) _ (fun h => by cases h) (fun x hx => by injection hx with hx; injection hx with hx; rw [hx])⟩
  · intro f R W h h9
    exact h.alloc h9 (fun x hx => by cases hx)
  · intro f R W h h9 h10
    obtain ⟨g, k1, k2, k3⟩ := h.new h9
    rw [h10] at k3
    refine ⟨g, k1, fun i hi => ⟨?_, k3.frozen i⟩, ?_⟩
    · match i, hi with
      | 0, _ => exact k3.cell 0 _ rfl
      | 1, _ => exact k3.cell 1 _ rfl
      | 2, _ => exact k3.cell 2 _ rfl
      | 3, _ => exact k3.cell 3 _ rfl
      | 4, _ => exact k3.cell 4 _ rfl
      | 5, _ => exact k3.cell 5 _ rfl
      | 6, _ => exact k3.cell 6 _ rfl
    · rw [← Hzz.out]
      have k4 := Blk.set7 k3 (.int .i64 xy) (.int .i64 xo) (.int .i64 xd) (.int .i64 xt) (.int .i64 xi) (.int .i64 xs) (.int .i64 zz)
      refine ⟨below_set7 h.below k2 _ _ _ _ _ _ _, fun hf => ?_, fun j x hf hx => ?_, fun _ => ?_, fun _ => ?_⟩
      · rw [setF_ne f (by omega)] at hf; exact h.str hf
      · by_cases e : j = 10
        · subst e; cases hx
        · rw [setF_ne f e] at hf; exact h.val j x hf hx
      · rw [setF_self]; exact ⟨g, k1, k2, k4⟩
      · rw [setF_ne f (by omega)]; exact h9
  · intro f R W h k v hf hx
    exact h.val k v hf hx
  · exact ⟨(Below.refl _ _).drew, fun h => (by cases h), fun k v h => (by cases h), fun h => (by cases h), fun h => (by cases h)⟩
  · intro af w2 f hfr hall hS
    obtain ⟨g, h4, hg1, hg2⟩ := hS.new (hall 9 (by decide))
    rw [hall 10 (by decide)] at hg2
    have HB2 := Lib.hid hS.below
    have HG2 := Lib.hid hg2
    have HGE := Lib.hid hg1
    change af.eval (.tmp 4) = _ at h4
    clear hS hall hg1 hg2
    have ha := hfr.eq (by intro t ht; simp at ht; show t < 50; omega)
    simp only [List.foldl_cons, List.foldl_nil] at ha
    clear hfr
    rw [h4] at ha
    clear h4
    generalize af.eval (.tmp 9) = u9 at ha
    generalize af.eval (.tmp 10) = u10 at ha
    generalize af.eval (.tmp 11) = u11 at ha
    generalize af.eval (.tmp 12) = u12 at ha
    generalize af.eval (.tmp 13) = u13 at ha
    generalize af.eval (.tmp 14) = u14 at ha
    generalize af.eval (.tmp 15) = u15 at ha
    generalize af.eval (.tmp 16) = u16 at ha
    generalize af.eval (.tmp 17) = u17 at ha
    generalize af.eval (.tmp 18) = u18 at ha
    generalize af.eval (.tmp 19) = u19 at ha
    generalize af.eval (.tmp 20) = u20 at ha
    generalize af.eval (.tmp 21) = u21 at ha
    generalize af.eval (.tmp 22) = u22 at ha
    generalize af.eval (.tmp 23) = u23 at ha
    generalize af.eval (.tmp 24) = u24 at ha
    generalize af.eval (.tmp 25) = u25 at ha
    generalize af.eval (.tmp 26) = u26 at ha
    generalize af.eval (.tmp 27) = u27 at ha
    generalize af.eval (.tmp 28) = u28 at ha
    generalize af.eval (.tmp 29) = u29 at ha
    generalize af.eval (.tmp 30) = u30 at ha
    generalize af.eval (.tmp 31) = u31 at ha
    generalize af.eval (.tmp 32) = u32 at ha
    generalize af.eval (.tmp 33) = u33 at ha
    generalize af.eval (.tmp 34) = u34 at ha
    generalize af.eval (.tmp 35) = u35 at ha
    generalize af.eval (.tmp 36) = u36 at ha
    subst ha
    simp only [Act.put, List.setIfInBounds_toArray, List.set_cons_zero, List.set_cons_succ]
    have x0 := HG2.out.cell 0 _ rfl
    have x1 := HG2.out.cell 1 _ rfl
    have x2 := HG2.out.cell 2 _ rfl
    have x3 := HG2.out.cell 3 _ rfl
    have x4 := HG2.out.cell 4 _ rfl
    have x5 := HG2.out.cell 5 _ rfl
    have x6 := HG2.out.cell 6 _ rfl
    have y6 := HG2.out.frozen 6
    have hne : w.heap.size ≠ g := by
      have h1 := HG1.out.lt
      have h2 := HGE.out
      omega
    have HNE := Lib.hid hne
    clear hne
    have HFIN : Hid (∀ (z : Int) (W : World), (∃ neg, neg = (s.data.toList[21]? == some 45) ∧ z = Dt.signed neg zz) → Below w1.heap.size w1 W → (sh z = s → ParseEnd s w (.returned (.tuple #[.agg #[.int .i64 xy, .int .i64 xo, .int .i64 xd, .int .i64 xt, .int .i64 xi, .int .i64 xs, .int .i64 z], .int .i64 0])) (((((((W.setCell ⟨w.heap.size, 0, none⟩ (.int .i64 xy)).setCell ⟨w.heap.size, 1, none⟩ (.int .i64 xo)).setCell ⟨w.heap.size, 2, none⟩ (.int .i64 xd)).setCell ⟨w.heap.size, 3, none⟩ (.int .i64 xt)).setCell ⟨w.heap.size, 4, none⟩ (.int .i64 xi)).setCell ⟨w.heap.size, 5, none⟩ (.int .i64 xs)).setCell ⟨w.heap.size, 6, none⟩ (.int .i64 z))) ∧
        (sh z ≠ s → ParseEnd s w (.returned (.tuple #[.agg #[.int .i64 0, .int .i64 0, .int .i64 0, .int .i64 0, .int .i64 0, .int .i64 0, .int .i64 0], .int .i64 3])) (((((((W.setCell ⟨w.heap.size, 0, none⟩ (.int .i64 0)).setCell ⟨w.heap.size, 1, none⟩ (.int .i64 0)).setCell ⟨w.heap.size, 2, none⟩ (.int .i64 0)).setCell ⟨w.heap.size, 3, none⟩ (.int .i64 0)).setCell ⟨w.heap.size, 4, none⟩ (.int .i64 0)).setCell ⟨w.heap.size, 5, none⟩ (.int .i64 0)).setCell ⟨w.heap.size, 6, none⟩ (.int .i64 0)))) := Lib.hid (fun z W hz hb => by
      obtain ⟨neg, hn, rfl⟩ := hz
      have hc := HCAND.out neg hn
      have hb2 := HB1.out.trans (hb.mono HB1.out.size)
      refine ⟨fun he => ⟨some ⟨xy, xo, xd, xt, xi, xs, Dt.signed neg zz⟩, Dt.ParseR.yes HLEN.out ?_, rfl, below_set7 hb2 (Nat.le_refl _) _ _ _ _ _ _ _⟩, fun he => ⟨none, Dt.ParseR.cand_no (fun e => he ?_), rfl, below_set7 hb2 (Nat.le_refl _) _ _ _ _ _ _ _⟩⟩
      · have := congrArg (fun b : ByteArray => b.data.toList) he
        rw [Hsh.out] at this
        exact this
      · rw [Hsh.out, ← hc]
        apply ByteArray.ext
        show (Dt.shown (Dt.cand s.data.toList)).toArray = s.data
        rw [e])
    have HX2 : Hid (Blk w2 w.heap.size 24 #[.int .i64 0, .int .i64 0, .int .i64 0, .int .i64 0, .int .i64 0, .int .i64 0, .int .i64 0]) := Lib.hid (HG1.out.below HB2.out HG1.out.lt)
    by_cases h45 : ch.toNat = 45
    · have c1 : ((ch.toNat : Int) == 45) = true := by rw [beq_iff_eq]; omega
      have HZ : Hid (∃ neg, neg = (s.data.toList[21]? == some 45) ∧ -zz = Dt.signed neg zz) := Lib.hid ⟨true, by
        rw [HCH.out]
        have : ch = 45 := UInt8.toNat_inj.1 h45
        rw [this]; rfl, rfl⟩
      clear h45
      go_wp2_with fail
      have hb3 : Below w1.heap.size w1 (w2.setCell ⟨g, 6, none⟩ (.int .i64 (-zz))) := below_set HB2.out HGE.out 6 _
      have HG3 := Lib.hid (HG2.out.set 6 (.int .i64 (-zz)))
      have HX3 : Hid (Blk (w2.setCell ⟨g, 6, none⟩ (.int .i64 (-zz))) w.heap.size 24 #[.int .i64 0, .int .i64 0, .int .i64 0, .int .i64 0, .int .i64 0, .int .i64 0, .int .i64 0]) := Lib.hid (HX2.out.other HNE.out _)
      have HB3 := Lib.hid hb3
      clear hb3 x0 x1 x2 x3 x4 x5 x6 y6
      refine (HSHOW.out (-zz) _ HB3.out).mono ?_
      rintro e w4 ⟨rfl, hb4⟩
      have HB4 : Hid (Below w1.heap.size w1 w4) := Lib.hid (HB3.out.trans (hb4.mono HB3.out.size))
      have HX4 := Lib.hid (HX3.out.below hb4 HX3.out.lt)
      have hg4 : Blk w4 g 24 #[.int .i64 xy, .int .i64 xo, .int .i64 xd, .int .i64 xt, .int .i64 xi, .int .i64 xs, .int .i64 (-zz)] := HG3.out.below hb4 HG3.out.lt
      have HE := Lib.hid (HFIN.out (-zz) w4 HZ.out HB4.out)
      obtain ⟨q, Hq⟩ : ∃ q, Hid (q = sh (-zz)) := ⟨_, Lib.hid rfl⟩
      rw [← Hq.out]
      rw [← Hq.out] at HE
      have HG4 := Lib.hid hg4
      clear hb4 hg4
      have v0 := HG4.out.cell 0 _ rfl
      have v1 := HG4.out.cell 1 _ rfl
      have v2 := HG4.out.cell 2 _ rfl
      have v3 := HG4.out.cell 3 _ rfl
      have v4 := HG4.out.cell 4 _ rfl
      have v5 := HG4.out.cell 5 _ rfl
      have v6 := HG4.out.cell 6 _ rfl
      have x0 := HX4.out.cell 0 _ rfl
      have x1 := HX4.out.cell 1 _ rfl
      have x2 := HX4.out.cell 2 _ rfl
      have x3 := HX4.out.cell 3 _ rfl
      have x4 := HX4.out.cell 4 _ rfl
      have x5 := HX4.out.cell 5 _ rfl
      have x6 := HX4.out.cell 6 _ rfl
      have y0 := HX4.out.frozen 0
      have y1 := HX4.out.frozen 1
      have y2 := HX4.out.frozen 2
      have y3 := HX4.out.frozen 3
      have y4 := HX4.out.frozen 4
      have y5 := HX4.out.frozen 5
      have y6 := HX4.out.frozen 6
      by_cases heq : q = s
      · have c2 : (q.toList == s.toList) = true := by rw [heq]; simp
        have HQ := Lib.hid heq
        clear heq
        go_wp2
        refine bodyPost_ret (parse_ret _ _ w.heap.size rfl xy xo xd xt xi xs _ _ rfl (HX4.out.set7 _ _ _ _ _ _ _)) rfl ?_
        exact HE.out.1 HQ.out
      · have c2 : (q.toList == s.toList) = false := by
          rw [beq_eq_false_iff_ne, ne_eq, Go.ByteArray.toList_eq, Go.ByteArray.toList_eq]
          intro e
          apply heq
          apply ByteArray.ext
          exact Array.toList_inj.1 e
        have HQ := Lib.hid heq
        clear heq
        go_wp2
        refine bodyPost_ret (parse_ret _ _ w.heap.size rfl 0 0 0 0 0 0 0 _ rfl (HX4.out.set7 _ _ _ _ _ _ _)) rfl ?_
        exact HE.out.2 HQ.out
    · have c1 : ((ch.toNat : Int) == 45) = false := by rw [beq_eq_false_iff_ne]; omega
      have HZ : Hid (∃ neg, neg = (s.data.toList[21]? == some 45) ∧ zz = Dt.signed neg zz) := Lib.hid ⟨false, by
        rw [HCH.out, eq_comm, beq_eq_false_iff_ne]
        intro e
        injection e with e
        exact h45 (by rw [e]; rfl), rfl⟩
      clear h45
      go_wp2_with fail
      have HX3 := HX2
      have HG3 := HG2
      have HB3 := HB2
      clear x0 x1 x2 x3 x4 x5 x6 y6
      refine (HSHOW.out zz _ HB3.out).mono ?_
      rintro e w4 ⟨rfl, hb4⟩
      have HB4 : Hid (Below w1.heap.size w1 w4) := Lib.hid (HB3.out.trans (hb4.mono HB3.out.size))
      have HX4 := Lib.hid (HX3.out.below hb4 HX3.out.lt)
      have hg4 : Blk w4 g 24 #[.int .i64 xy, .int .i64 xo, .int .i64 xd, .int .i64 xt, .int .i64 xi, .int .i64 xs, .int .i64 zz] := HG3.out.below hb4 HG3.out.lt
      have HE := Lib.hid (HFIN.out zz w4 HZ.out HB4.out)
      obtain ⟨q, Hq⟩ : ∃ q, Hid (q = sh zz) := ⟨_, Lib.hid rfl⟩
      rw [← Hq.out]
      rw [← Hq.out] at HE
      have HG4 := Lib.hid hg4
      clear hb4 hg4
      have v0 := HG4.out.cell 0 _ rfl
      have v1 := HG4.out.cell 1 _ rfl
      have v2 := HG4.out.cell 2 _ rfl
      have v3 := HG4.out.cell 3 _ rfl
      have v4 := HG4.out.cell 4 _ rfl
      have v5 := HG4.out.cell 5 _ rfl
      have v6 := HG4.out.cell 6 _ rfl
      have x0 := HX4.out.cell 0 _ rfl
      have x1 := HX4.out.cell 1 _ rfl
      have x2 := HX4.out.cell 2 _ rfl
      have x3 := HX4.out.cell 3 _ rfl
      have x4 := HX4.out.cell 4 _ rfl
      have x5 := HX4.out.cell 5 _ rfl
      have x6 := HX4.out.cell 6 _ rfl
      have y0 := HX4.out.frozen 0
      have y1 := HX4.out.frozen 1
      have y2 := HX4.out.frozen 2
      have y3 := HX4.out.frozen 3
      have y4 := HX4.out.frozen 4
      have y5 := HX4.out.frozen 5
      have y6 := HX4.out.frozen 6
      by_cases heq : q = s
      · have c2 : (q.toList == s.toList) = true := by rw [heq]; simp
        have HQ := Lib.hid heq
        clear heq
        go_wp2
        refine bodyPost_ret (parse_ret _ _ w.heap.size rfl xy xo xd xt xi xs _ _ rfl (HX4.out.set7 _ _ _ _ _ _ _)) rfl ?_
        exact HE.out.1 HQ.out
      · have c2 : (q.toList == s.toList) = false := by
          rw [beq_eq_false_iff_ne, ne_eq, Go.ByteArray.toList_eq, Go.ByteArray.toList_eq]
          intro e
          apply heq
          apply ByteArray.ext
          exact Array.toList_inj.1 e
        have HQ := Lib.hid heq
        clear heq
        go_wp2
        refine bodyPost_ret (parse_ret _ _ w.heap.size rfl 0 0 0 0 0 0 0 _ rfl (HX4.out.set7 _ _ _ _ _ _ _)) rfl ?_
        exact HE.out.2 HQ.out
end Go.Proofs.YtgkibkophoikoaaDoor
