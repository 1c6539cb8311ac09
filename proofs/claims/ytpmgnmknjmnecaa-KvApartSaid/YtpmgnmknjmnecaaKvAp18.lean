/- KvApart: the bytes of two tables. -/
import Derived.Test.YtpmgnmknjmnecaaVals
import Derived.Test.YtpmgnmknjmnecaaAppend
import Derived.WalkKit
import Derived.WalkSpells
import Derived.WalkLawsBesides
import Derived.Lib.Hide
namespace Go.Proofs.Ytpmgnmknjmnecaa
open Go.RowKit
set_option linter.unusedVariables false
set_option linter.unusedSimpArgs false

def opsKap18 : Array Oper := #[
  { dst := some 79, op := Op.move (Operand.tmp 4), type := 23, pos := "more.go:29", after := #[], guard := none },
  { dst := some 80, op := Op.call { callee := Callee.value (Operand.func 14), args := #[Operand.tmp 79], argTypes := #[23] }, type := 27, pos := "more.go:29", after := #[{ on := 0, ground := Ground.data }], guard := none },
  { dst := some 81, op := Op.convert 27 9 (Operand.tmp 80), type := 9, pos := "more.go:29", after := #[{ on := 1, ground := Ground.data }], guard := none },
  { dst := some 82, op := Op.move (Operand.tmp 5), type := 23, pos := "more.go:29", after := #[], guard := none },
  { dst := some 83, op := Op.call { callee := Callee.value (Operand.func 14), args := #[Operand.tmp 82], argTypes := #[23] }, type := 27, pos := "more.go:29", after := #[{ on := 3, ground := Ground.data }, { on := 1, ground := Ground.chain }], guard := none },
  { dst := some 84, op := Op.convert 27 9 (Operand.tmp 83), type := 9, pos := "more.go:29", after := #[{ on := 4, ground := Ground.data }], guard := none },
  { dst := some 85, op := Op.binOp BinOp.eql 9 (Operand.tmp 81) (Operand.tmp 84) 9, type := 4, pos := "more.go:29", after := #[{ on := 2, ground := Ground.data }, { on := 5, ground := Ground.data }], guard := none },
  { dst := some 86, op := Op.move (Operand.tmp 85), type := 4, pos := "more.go:29", after := #[{ on := 6, ground := Ground.data }, { on := 4, ground := Ground.chain }], guard := none },
  { dst := some 87, op := Op.move (Operand.tmp 4), type := 23, pos := "more.go:29", after := #[{ on := 7, ground := Ground.guard }], guard := some (7, true) },
  { dst := some 88, op := Op.call { callee := Callee.value (Operand.func 11), args := #[Operand.tmp 87], argTypes := #[23] }, type := 3, pos := "more.go:29", after := #[{ on := 8, ground := Ground.data }, { on := 7, ground := Ground.chain }, { on := 7, ground := Ground.guard }], guard := some (7, true) },
  { dst := some 89, op := Op.move (Operand.tmp 5), type := 23, pos := "more.go:29", after := #[{ on := 7, ground := Ground.guard }], guard := some (7, true) },
  { dst := some 90, op := Op.call { callee := Callee.value (Operand.func 11), args := #[Operand.tmp 89], argTypes := #[23] }, type := 3, pos := "more.go:29", after := #[{ on := 10, ground := Ground.data }, { on := 9, ground := Ground.chain }, { on := 7, ground := Ground.guard }], guard := some (7, true) },
  { dst := some 91, op := Op.binOp BinOp.eql 3 (Operand.tmp 88) (Operand.tmp 90) 3, type := 4, pos := "more.go:29", after := #[{ on := 9, ground := Ground.data }, { on := 11, ground := Ground.data }, { on := 7, ground := Ground.guard }], guard := some (7, true) },
  { dst := some 92, op := Op.pick (Operand.tmp 86) (Operand.tmp 91) (Operand.const (Value.bool false)), type := 4, pos := "more.go:29", after := #[{ on := 7, ground := Ground.data }, { on := 12, ground := Ground.data }], guard := none },
  { dst := some 2, op := Op.assign (Operand.tmp 92), type := 4, pos := "more.go:29", after := #[{ on := 13, ground := Ground.data }, { on := 11, ground := Ground.chain }, { on := 0, ground := Ground.phase }, { on := 1, ground := Ground.phase }, { on := 2, ground := Ground.phase }, { on := 3, ground := Ground.phase }, { on := 4, ground := Ground.phase }, { on := 5, ground := Ground.phase }, { on := 6, ground := Ground.phase }, { on := 7, ground := Ground.phase }, { on := 8, ground := Ground.phase }, { on := 9, ground := Ground.phase }, { on := 10, ground := Ground.phase }, { on := 11, ground := Ground.phase }, { on := 12, ground := Ground.phase }, { on := 13, ground := Ground.phase }], guard := none }]

def kap18Vals (x y nb : Nat) (nn : Int) (bs : ByteArray) : List (Nat × Nat × Value) := [(0, 79, .pointer (some ⟨x, 0, none⟩)), (2, 81, .string bs), (3, 82, .pointer (some ⟨y, 0, none⟩)), (5, 84, .string bs), (6, 85, .bool true), (7, 86, .bool true), (8, 87, .pointer (some ⟨x, 0, none⟩)), (10, 89, .pointer (some ⟨y, 0, none⟩)), (12, 91, .bool true), (13, 92, .bool true), (14, 2, .bool true)]
def kap18C : List (Nat × Nat) := [(1, 80), (4, 83), (9, 88), (11, 90)]

set_option maxHeartbeats 4000000 in
set_option maxRecDepth 100000 in
theorem kap18 {Q : Exit → Act → World → Prop} {a0 : Act} {wp : World} (x y nb : Nat) (nn : Int) (bs : ByteArray) (S : Nat → (Nat → Value) → World → Prop)
    (hsz : 92 < a0.tmps.size) (in4 : a0.eval (.tmp 4) = .pointer (some ⟨x, 0, none⟩)) (in5 : a0.eval (.tmp 5) = .pointer (some ⟨y, 0, none⟩))
    (hcv : ∀ p R w, S p R w → ∀ k, k < p → k < 2 → ∃ A c, R k = .slice A nb c ∧ (convert 27 9 (.slice A nb c)).run Try.prog w = .ok (.string bs) w)
    (hln : ∀ p R w, S p R w → ∀ k, k < p → 2 ≤ k → R k = .int .i64 nn)
    (hc0 : ∀ R w, S 0 R w → Calls Try.prog 14 #[.pointer (some ⟨x, 0, none⟩)] w fun e w' => ∃ v, e = .returned v ∧ S 1 (setR R 0 v) w')
    (hc1 : ∀ R w, S 1 R w → Calls Try.prog 14 #[.pointer (some ⟨y, 0, none⟩)] w fun e w' => ∃ v, e = .returned v ∧ S 2 (setR R 1 v) w')
    (hc2 : ∀ R w, S 2 R w → Calls Try.prog 11 #[.pointer (some ⟨x, 0, none⟩)] w fun e w' => ∃ v, e = .returned v ∧ S 3 (setR R 2 v) w')
    (hc3 : ∀ R w, S 3 R w → Calls Try.prog 11 #[.pointer (some ⟨y, 0, none⟩)] w fun e w' => ∃ v, e = .returned v ∧ S 4 (setR R 3 v) w')
    (hS : S 0 (resOf kap18C fun t => a0.eval (.tmp t)) wp.drew)
    (fin : ∀ a w, Fr [79, 80, 81, 82, 83, 84, 85, 86, 87, 88, 89, 90, 91, 92, 2] a0 a → a.eval (.tmp 2) = .bool true → S 4 (resOf kap18C fun t => a.eval (.tmp t)) w → Q .normal a w) :
    (Code.region 18 opsKap18 true).wp Try.prog Q a0 wp := by
  refine region_inv (by kernel_rfl) [79, 80, 81, 82, 83, 84, 85, 86, 87, 88, 89, 90, 91, 92, 2] (by kernel_rfl) (by kernel_rfl) (fun t ht => by simp at ht; omega) (GV (kap18Vals x y nb nn bs) kap18C S) (.start hS) ?_
    (fun L a w hf hall hG => fin a w hf (hG.val 10 14 2 _ rfl (hall 14 (by decide))) (hG.fin (fun c hc => by simp [kap18C] at hc; rcases hc with rfl | rfl | rfl | rfl <;> exact hall _ (by decide))))
  clear hS fin
  intro ix oo ho L a w hfr hG hLi hdep hcl K hK
  have e4 : a.tmps[4]?.getD undef = .pointer (some ⟨x, 0, none⟩) := by rw [← ev]; exact (hfr.same 4 (by decide)).trans in4
  have e5 : a.tmps[5]?.getD undef = .pointer (some ⟨y, 0, none⟩) := by rw [← ev]; exact (hfr.same 5 (by decide)).trans in5
  clear in4 in5
  match ix, ho with
  | 0, ho =>
    simp only [opsKap18, List.getElem?_toArray, List.getElem?_cons_zero, Option.some.injEq] at ho
    subst ho
    rw [if_pos (show Region.wanted _ _ = true from rfl)]
    have hfin := hK (.pointer (some ⟨x, 0, none⟩)) w (hG.quiet 0 0 79 _ rfl (by kernel_rfl) (by kernel_rfl))
    have HK := Lib.hid hfin
    clear hG hcl hdep hfr hK hfin hLi 
    go_simp
    exact HK.out
  | 1, ho =>
    simp only [opsKap18, List.getElem?_toArray, List.getElem?_cons_succ, List.getElem?_cons_zero, Option.some.injEq] at ho
    subst ho
    have x79 : a.tmps[79]?.getD undef = .pointer (some ⟨x, 0, none⟩) := by rw [← ev]; exact hG.val 0 0 79 _ rfl (hdep ⟨0, .data⟩ (by simp) rfl)
    rw [if_pos (show Region.wanted _ _ = true from rfl)]
    have hSj := hG.at 0 (1, 80) rfl hLi (fun c h0 hc => absurd h0 (by decide))
    have hfin := fun v w' hs => hK v w' (hG.call 0 (1, 80) rfl hLi (fun c h0 hc => absurd h0 (by decide)) (by kernel_rfl) v w' hs)
    have HK := Lib.hid hfin
    generalize (resOf kap18C fun t => a.eval (.tmp t)) = R at *
    clear hG hcl hdep hfr hK hfin hLi
    have hc := Lib.hid (hc0 _ _ hSj)
    clear hSj hcv hln hc0 hc1 hc2 hc3
    go_simp
    go_at_call 14
    refine hc.out.mono ?_
    rintro e w' ⟨v, rfl, hs⟩
    exact HK.out v w' hs
  | 2, ho =>
    simp only [opsKap18, List.getElem?_toArray, List.getElem?_cons_succ, List.getElem?_cons_zero, Option.some.injEq] at ho
    subst ho
    rw [if_pos (show Region.wanted _ _ = true from rfl)]
    obtain ⟨ph, hSp, hdone⟩ := hG.any
    have hd80 : 0 < ph := hdone 0 (1, 80) rfl (hdep ⟨1, .data⟩ (by simp) rfl)
    have r80 : a.tmps[80]?.getD undef = resOf kap18C (fun t => a.eval (.tmp t)) 0 := by rw [← ev]; exact (resOf_at (C := kap18C) (j := 0) rfl a).symm
    have hfin := hK (.string bs) w (hG.quiet 1 2 81 _ rfl (by kernel_rfl) (by kernel_rfl))
    have HK := Lib.hid hfin
    generalize (resOf kap18C fun t => a.eval (.tmp t)) = R at *
    obtain ⟨A2, c2, q1, q2⟩ := hcv _ _ _ hSp 0 hd80 (by decide)
    rw [q1] at r80
    clear hcv hln hc0 hc1 hc2 hc3 q1 hd80
    clear hSp hdone
    clear hG hcl hdep hfr hK hfin hLi 
    go_simp
    exact HK.out
  | 3, ho =>
    simp only [opsKap18, List.getElem?_toArray, List.getElem?_cons_succ, List.getElem?_cons_zero, Option.some.injEq] at ho
    subst ho
    rw [if_pos (show Region.wanted _ _ = true from rfl)]
    have hfin := hK (.pointer (some ⟨y, 0, none⟩)) w (hG.quiet 2 3 82 _ rfl (by kernel_rfl) (by kernel_rfl))
    have HK := Lib.hid hfin
    clear hG hcl hdep hfr hK hfin hLi 
    go_simp
    exact HK.out
  | 4, ho =>
    simp only [opsKap18, List.getElem?_toArray, List.getElem?_cons_succ, List.getElem?_cons_zero, Option.some.injEq] at ho
    subst ho
    have x82 : a.tmps[82]?.getD undef = .pointer (some ⟨y, 0, none⟩) := by rw [← ev]; exact hG.val 2 3 82 _ rfl (hdep ⟨3, .data⟩ (by simp) rfl)
    rw [if_pos (show Region.wanted _ _ = true from rfl)]
    have hSj := hG.at 1 (4, 83) rfl hLi (fun c h0 hc => by simp [kap18C] at hc; subst hc; exact hdep ⟨1, .chain⟩ (by simp) rfl)
    have hfin := fun v w' hs => hK v w' (hG.call 1 (4, 83) rfl hLi (fun c h0 hc => by simp [kap18C] at hc; subst hc; exact hdep ⟨1, .chain⟩ (by simp) rfl) (by kernel_rfl) v w' hs)
    have HK := Lib.hid hfin
    generalize (resOf kap18C fun t => a.eval (.tmp t)) = R at *
    clear hG hcl hdep hfr hK hfin hLi
    have hc := Lib.hid (hc1 _ _ hSj)
    clear hSj hcv hln hc0 hc1 hc2 hc3
    go_simp
    go_at_call 14
    refine hc.out.mono ?_
    rintro e w' ⟨v, rfl, hs⟩
    exact HK.out v w' hs
  | 5, ho =>
    simp only [opsKap18, List.getElem?_toArray, List.getElem?_cons_succ, List.getElem?_cons_zero, Option.some.injEq] at ho
    subst ho
    rw [if_pos (show Region.wanted _ _ = true from rfl)]
    obtain ⟨ph, hSp, hdone⟩ := hG.any
    have hd83 : 1 < ph := hdone 1 (4, 83) rfl (hdep ⟨4, .data⟩ (by simp) rfl)
    have r83 : a.tmps[83]?.getD undef = resOf kap18C (fun t => a.eval (.tmp t)) 1 := by rw [← ev]; exact (resOf_at (C := kap18C) (j := 1) rfl a).symm
    have hfin := hK (.string bs) w (hG.quiet 3 5 84 _ rfl (by kernel_rfl) (by kernel_rfl))
    have HK := Lib.hid hfin
    generalize (resOf kap18C fun t => a.eval (.tmp t)) = R at *
    obtain ⟨A2, c2, q1, q2⟩ := hcv _ _ _ hSp 1 hd83 (by decide)
    rw [q1] at r83
    clear hcv hln hc0 hc1 hc2 hc3 q1 hd83
    clear hSp hdone
    clear hG hcl hdep hfr hK hfin hLi 
    go_simp
    exact HK.out
  | 6, ho =>
    simp only [opsKap18, List.getElem?_toArray, List.getElem?_cons_succ, List.getElem?_cons_zero, Option.some.injEq] at ho
    subst ho
    have x81 : a.tmps[81]?.getD undef = .string bs := by rw [← ev]; exact hG.val 1 2 81 _ rfl (hdep ⟨2, .data⟩ (by simp) rfl)
    have x84 : a.tmps[84]?.getD undef = .string bs := by rw [← ev]; exact hG.val 3 5 84 _ rfl (hdep ⟨5, .data⟩ (by simp) rfl)
    rw [if_pos (show Region.wanted _ _ = true from rfl)]
    have hfin := hK (.bool true) w (hG.quiet 4 6 85 _ rfl (by kernel_rfl) (by kernel_rfl))
    have HK := Lib.hid hfin
    clear hG hcl hdep hfr hK hfin hLi 
    go_simp
    exact HK.out
  | 7, ho =>
    simp only [opsKap18, List.getElem?_toArray, List.getElem?_cons_succ, List.getElem?_cons_zero, Option.some.injEq] at ho
    subst ho
    have x85 : a.tmps[85]?.getD undef = .bool true := by rw [← ev]; exact hG.val 4 6 85 _ rfl (hdep ⟨6, .data⟩ (by simp) rfl)
    rw [if_pos (show Region.wanted _ _ = true from rfl)]
    have hfin := hK (.bool true) w (hG.quiet 5 7 86 _ rfl (by kernel_rfl) (by kernel_rfl))
    have HK := Lib.hid hfin
    clear hG hcl hdep hfr hK hfin hLi 
    go_simp
    exact HK.out
  | 8, ho =>
    simp only [opsKap18, List.getElem?_toArray, List.getElem?_cons_succ, List.getElem?_cons_zero, Option.some.injEq] at ho
    subst ho
    have xg : a.tmps[86]?.getD undef = .bool true := by rw [← ev]; exact hG.val 5 7 86 _ rfl (hdep ⟨7, .guard⟩ (by simp) rfl)
    have hw := wanted_of (ops := opsKap18) (a := a) (o := { dst := some 87, op := Op.move (Operand.tmp 4), type := 23, pos := "more.go:29", after := #[{ on := 7, ground := Ground.guard }], guard := some (7, true) }) (g := 7) (s := 86) (b := true) (b' := true) rfl rfl xg
    replace hw := hw.trans (show (true == true) = true from rfl)
    rw [if_pos hw]
    clear hw xg
    have hfin := hK (.pointer (some ⟨x, 0, none⟩)) w (hG.quiet 6 8 87 _ rfl (by kernel_rfl) (by kernel_rfl))
    have HK := Lib.hid hfin
    clear hG hcl hdep hfr hK hfin hLi 
    go_simp
    exact HK.out
  | 9, ho =>
    simp only [opsKap18, List.getElem?_toArray, List.getElem?_cons_succ, List.getElem?_cons_zero, Option.some.injEq] at ho
    subst ho
    have x87 : a.tmps[87]?.getD undef = .pointer (some ⟨x, 0, none⟩) := by rw [← ev]; exact hG.val 6 8 87 _ rfl (hdep ⟨8, .data⟩ (by simp) rfl)
    have xg : a.tmps[86]?.getD undef = .bool true := by rw [← ev]; exact hG.val 5 7 86 _ rfl (hdep ⟨7, .chain⟩ (by simp) rfl)
    have hw := wanted_of (ops := opsKap18) (a := a) (o := { dst := some 88, op := Op.call { callee := Callee.value (Operand.func 11), args := #[Operand.tmp 87], argTypes := #[23] }, type := 3, pos := "more.go:29", after := #[{ on := 8, ground := Ground.data }, { on := 7, ground := Ground.chain }, { on := 7, ground := Ground.guard }], guard := some (7, true) }) (g := 7) (s := 86) (b := true) (b' := true) rfl rfl xg
    replace hw := hw.trans (show (true == true) = true from rfl)
    rw [if_pos hw]
    clear hw xg
    have hSj := hG.at 2 (9, 88) rfl hLi (fun c h0 hc => by simp [kap18C] at hc; subst hc; exact hcl 7 _ rfl (hdep ⟨7, .chain⟩ (by simp) rfl) ⟨4, .chain⟩ (by simp [opsKap18]) rfl)
    have hfin := fun v w' hs => hK v w' (hG.call 2 (9, 88) rfl hLi (fun c h0 hc => by simp [kap18C] at hc; subst hc; exact hcl 7 _ rfl (hdep ⟨7, .chain⟩ (by simp) rfl) ⟨4, .chain⟩ (by simp [opsKap18]) rfl) (by kernel_rfl) v w' hs)
    have HK := Lib.hid hfin
    generalize (resOf kap18C fun t => a.eval (.tmp t)) = R at *
    clear hG hcl hdep hfr hK hfin hLi
    have hc := Lib.hid (hc2 _ _ hSj)
    clear hSj hcv hln hc0 hc1 hc2 hc3
    go_simp
    go_at_call 11
    refine hc.out.mono ?_
    rintro e w' ⟨v, rfl, hs⟩
    exact HK.out v w' hs
  | 10, ho =>
    simp only [opsKap18, List.getElem?_toArray, List.getElem?_cons_succ, List.getElem?_cons_zero, Option.some.injEq] at ho
    subst ho
    have xg : a.tmps[86]?.getD undef = .bool true := by rw [← ev]; exact hG.val 5 7 86 _ rfl (hdep ⟨7, .guard⟩ (by simp) rfl)
    have hw := wanted_of (ops := opsKap18) (a := a) (o := { dst := some 89, op := Op.move (Operand.tmp 5), type := 23, pos := "more.go:29", after := #[{ on := 7, ground := Ground.guard }], guard := some (7, true) }) (g := 7) (s := 86) (b := true) (b' := true) rfl rfl xg
    replace hw := hw.trans (show (true == true) = true from rfl)
    rw [if_pos hw]
    clear hw xg
    have hfin := hK (.pointer (some ⟨y, 0, none⟩)) w (hG.quiet 7 10 89 _ rfl (by kernel_rfl) (by kernel_rfl))
    have HK := Lib.hid hfin
    clear hG hcl hdep hfr hK hfin hLi 
    go_simp
    exact HK.out
  | 11, ho =>
    simp only [opsKap18, List.getElem?_toArray, List.getElem?_cons_succ, List.getElem?_cons_zero, Option.some.injEq] at ho
    subst ho
    have x89 : a.tmps[89]?.getD undef = .pointer (some ⟨y, 0, none⟩) := by rw [← ev]; exact hG.val 7 10 89 _ rfl (hdep ⟨10, .data⟩ (by simp) rfl)
    have xg : a.tmps[86]?.getD undef = .bool true := by rw [← ev]; exact hG.val 5 7 86 _ rfl (hdep ⟨7, .guard⟩ (by simp) rfl)
    have hw := wanted_of (ops := opsKap18) (a := a) (o := { dst := some 90, op := Op.call { callee := Callee.value (Operand.func 11), args := #[Operand.tmp 89], argTypes := #[23] }, type := 3, pos := "more.go:29", after := #[{ on := 10, ground := Ground.data }, { on := 9, ground := Ground.chain }, { on := 7, ground := Ground.guard }], guard := some (7, true) }) (g := 7) (s := 86) (b := true) (b' := true) rfl rfl xg
    replace hw := hw.trans (show (true == true) = true from rfl)
    rw [if_pos hw]
    clear hw xg
    have hSj := hG.at 3 (11, 90) rfl hLi (fun c h0 hc => by simp [kap18C] at hc; subst hc; exact hdep ⟨9, .chain⟩ (by simp) rfl)
    have hfin := fun v w' hs => hK v w' (hG.call 3 (11, 90) rfl hLi (fun c h0 hc => by simp [kap18C] at hc; subst hc; exact hdep ⟨9, .chain⟩ (by simp) rfl) (by kernel_rfl) v w' hs)
    have HK := Lib.hid hfin
    generalize (resOf kap18C fun t => a.eval (.tmp t)) = R at *
    clear hG hcl hdep hfr hK hfin hLi
    have hc := Lib.hid (hc3 _ _ hSj)
    clear hSj hcv hln hc0 hc1 hc2 hc3
    go_simp
    go_at_call 11
    refine hc.out.mono ?_
    rintro e w' ⟨v, rfl, hs⟩
    exact HK.out v w' hs
  | 12, ho =>
    simp only [opsKap18, List.getElem?_toArray, List.getElem?_cons_succ, List.getElem?_cons_zero, Option.some.injEq] at ho
    subst ho
    have xg : a.tmps[86]?.getD undef = .bool true := by rw [← ev]; exact hG.val 5 7 86 _ rfl (hdep ⟨7, .guard⟩ (by simp) rfl)
    have hw := wanted_of (ops := opsKap18) (a := a) (o := { dst := some 91, op := Op.binOp BinOp.eql 3 (Operand.tmp 88) (Operand.tmp 90) 3, type := 4, pos := "more.go:29", after := #[{ on := 9, ground := Ground.data }, { on := 11, ground := Ground.data }, { on := 7, ground := Ground.guard }], guard := some (7, true) }) (g := 7) (s := 86) (b := true) (b' := true) rfl rfl xg
    replace hw := hw.trans (show (true == true) = true from rfl)
    rw [if_pos hw]
    clear hw xg
    obtain ⟨ph, hSp, hdone⟩ := hG.any
    have hd88 : 2 < ph := hdone 2 (9, 88) rfl (hdep ⟨9, .data⟩ (by simp) rfl)
    have r88 : a.tmps[88]?.getD undef = resOf kap18C (fun t => a.eval (.tmp t)) 2 := by rw [← ev]; exact (resOf_at (C := kap18C) (j := 2) rfl a).symm
    have hd90 : 3 < ph := hdone 3 (11, 90) rfl (hdep ⟨11, .data⟩ (by simp) rfl)
    have r90 : a.tmps[90]?.getD undef = resOf kap18C (fun t => a.eval (.tmp t)) 3 := by rw [← ev]; exact (resOf_at (C := kap18C) (j := 3) rfl a).symm
    have hfin := hK (.bool true) w (hG.quiet 8 12 91 _ rfl (by kernel_rfl) (by kernel_rfl))
    have HK := Lib.hid hfin
    generalize (resOf kap18C fun t => a.eval (.tmp t)) = R at *
    rw [hln _ _ _ hSp 2 hd88 (by decide)] at r88
    rw [hln _ _ _ hSp 3 hd90 (by decide)] at r90
    clear hcv hln hc0 hc1 hc2 hc3 hd88 hd90
    clear hSp hdone
    clear hG hcl hdep hfr hK hfin hLi 
    go_simp
    exact HK.out
  | 13, ho =>
    simp only [opsKap18, List.getElem?_toArray, List.getElem?_cons_succ, List.getElem?_cons_zero, Option.some.injEq] at ho
    subst ho
    have x86 : a.tmps[86]?.getD undef = .bool true := by rw [← ev]; exact hG.val 5 7 86 _ rfl (hdep ⟨7, .data⟩ (by simp) rfl)
    have x91 : a.tmps[91]?.getD undef = .bool true := by rw [← ev]; exact hG.val 8 12 91 _ rfl (hdep ⟨12, .data⟩ (by simp) rfl)
    rw [if_pos (show Region.wanted _ _ = true from rfl)]
    have hfin := hK (.bool true) w (hG.quiet 9 13 92 _ rfl (by kernel_rfl) (by kernel_rfl))
    have HK := Lib.hid hfin
    clear hG hcl hdep hfr hK hfin hLi 
    go_simp
    exact HK.out
  | 14, ho =>
    simp only [opsKap18, List.getElem?_toArray, List.getElem?_cons_succ, List.getElem?_cons_zero, Option.some.injEq] at ho
    subst ho
    have x92 : a.tmps[92]?.getD undef = .bool true := by rw [← ev]; exact hG.val 9 13 92 _ rfl (hdep ⟨13, .data⟩ (by simp) rfl)
    rw [if_pos (show Region.wanted _ _ = true from rfl)]
    have hfin := hK (.bool true) w (hG.quiet 10 14 2 _ rfl (by kernel_rfl) (by kernel_rfl))
    have HK := Lib.hid hfin
    clear hG hcl hdep hfr hK hfin hLi 
    go_simp
    exact HK.out
  | n + 15, ho => exact absurd (Array.getElem?_eq_some_iff.1 ho).1 (by show ¬ n + 15 < 15; omega)
end Go.Proofs.Ytpmgnmknjmnecaa
