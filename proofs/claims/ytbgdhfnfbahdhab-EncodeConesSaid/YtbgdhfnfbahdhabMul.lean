/- Nothing is proved here: this seat has no function that multiplies lists. -/
import Derived.Test.YtbgdhfnfbahdhabRows
